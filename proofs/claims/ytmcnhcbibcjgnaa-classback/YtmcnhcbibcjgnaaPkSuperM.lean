/-
  Layer 6, naming no program: sectors and changes as cells; one of them read out of, and stored into, a row of the call's own; the disk as it is told ('Dk') and what each call makes of it; the map of the last writes.
  Layer 13, naming no program: a text's chunks (256 bytes each, the last one shorter); how many there are and how long each is; they put together are the text; sectors joined; the addresses of two chunks of the laws' own example differ.
  Layer 8, naming no program: superblocks as bytes ('secS', 'getS'), which of two is chosen, and what a mount leaves of a disk, wherever the power goes.
-/
import Derived.Test.YtmcnhcbibcjgnaaPkStr
import Derived.Test.YtmcnhcbibcjgnaaPkTrapM
import Derived.Test.YtmcnhcbibcjgnaaPkArrV
import Derived.Deep.MidRow
import Derived.Maps.OwnSet
import Derived.Maps.AppendAt
import Derived.OwnWalk
import Derived.StillTailTactics
import Derived.Great.BuildSlice
import Derived.Test.YtmcnhcbibcjgnaaPkCrcRef
namespace Go.Proofs.Ytmcnhcbibcjgnaa
open Go.RowKit Go.Maps Go.ChangeMaps Go.MapKept Go.WideShapes
set_option linter.unusedVariables false

/-! ### Lists that are laid one behind the other -/
def putL : List Value → Nat → List Value → List Value
  | xs, _, [] => xs
  | xs, o, v :: r => putL (xs.set o v) (o + 1) r
theorem putL_length : ∀ (ys xs : List Value) (o : Nat), (putL xs o ys).length = xs.length
  | [], _, _ => rfl
  | v :: r, xs, o => by rw [putL, putL_length r]; simp
theorem putL_mid : ∀ (ys A B C : List Value), B.length = ys.length → putL (A ++ (B ++ C)) A.length ys = A ++ (ys ++ C)
  | [], A, B, C, h => by
    have : B = [] := List.eq_nil_of_length_eq_zero h
    subst this
    rfl
  | y :: ys, A, [], C, h => by simp at h
  | y :: ys, A, b :: B, C, h => by
    rw [putL, List.set_append_right _ _ (Nat.le_refl _), Nat.sub_self]
    have e := putL_mid ys (A ++ [y]) B C (by simpa using h)
    simp only [List.append_assoc, List.length_append, List.length_cons, List.length_nil, List.cons_append, List.nil_append] at e
    simpa using e

theorem snocInd {α : Type} {motive : List α → Prop} (nil : motive []) (append_singleton : ∀ l a, motive l → motive (l ++ [a])) (ws : List α) : motive ws := by
  have h : ∀ l : List α, motive l.reverse := by
    intro l
    induction l with
    | nil => exact nil
    | cons a l ih => rw [List.reverse_cons]; exact append_singleton _ _ ih
  have := h ws.reverse
  rwa [List.reverse_reverse] at this

section
variable {α : Type} {f : α → List Value} {k : Nat}
theorem flat_length (hf : ∀ a, (f a).length = k) (l : List α) : (l.flatMap f).length = l.length * k := by
  induction l with
  | nil => simp
  | cons a l ih => rw [List.flatMap_cons, List.length_append, hf, ih, List.length_cons, Nat.succ_mul]; omega
theorem flat_split (l : List α) (i : Nat) (a : α) (h : l[i]? = some a) : l.flatMap f = (l.take i).flatMap f ++ (f a ++ (l.drop (i + 1)).flatMap f) := by
  have hi : i < l.length := (List.getElem?_eq_some_iff.1 h).1
  have e : l = l.take i ++ (a :: l.drop (i + 1)) := by
    have h2 : l[i] = a := (List.getElem?_eq_some_iff.1 h).2
    rw [← h2, ← List.drop_eq_getElem_cons hi, List.take_append_drop]
  conv => lhs; rw [e]
  rw [List.flatMap_append, List.flatMap_cons]
theorem flat_get (hf : ∀ a, (f a).length = k) {l : List α} {i : Nat} {a : α} (h : l[i]? = some a) (j : Nat) (hj : j < k) : (l.flatMap f)[i * k + j]? = (f a)[j]? := by
  have hi : i < l.length := (List.getElem?_eq_some_iff.1 h).1
  have hl : ((l.take i).flatMap f).length = i * k := by rw [flat_length hf, List.length_take, Nat.min_eq_left (by omega)]
  rw [flat_split l i a h, List.getElem?_append_right (by omega), hl, Nat.add_sub_cancel_left, List.getElem?_append_left (by rw [hf]; exact hj)]
theorem flat_put (hf : ∀ a, (f a).length = k) {l : List α} {i : Nat} (hi : i < l.length) (a : α) : putL (l.flatMap f) (i * k) (f a) = (l.set i a).flatMap f := by
  have hl : ((l.take i).flatMap f).length = i * k := by rw [flat_length hf, List.length_take, Nat.min_eq_left (by omega)]
  rw [flat_split l i l[i] (List.getElem?_eq_getElem hi), ← hl, putL_mid _ _ _ _ (by rw [hf, hf]), flat_split (l.set i a) i a (by simp [hi])]
  rw [List.take_set_of_le (by omega), List.drop_set_of_lt (by omega)]
end

/-! ### A row of the call's own -/
section
variable {w : World} {base : Nat} {e : TypeId} {size : Nat} {v : Value} {n cap g : Nat} {xs : List Value}
theorem own_form (h : w.ownsRow base e size v n xs) (hn : 0 < n) : ∃ g cap, v = .slice (some ⟨g, 0, none⟩) n cap ∧ n ≤ cap ∧ cap ≤ maxLen ∧ base ≤ g ∧ g < w.heap.size := by
  rcases h.2 with ⟨_, h0⟩ | ⟨g, cap, cur, rfl, hb, hg, hnc, hm, _, _⟩
  · omega
  · exact ⟨g, cap, rfl, hnc, hm, hb, (Array.getElem?_eq_some_iff.1 hg).1⟩
/-- Whatever it is: a slice of that length. -/
theorem own_slice (h : w.ownsRow base e size v n xs) : ∃ A cap, v = .slice A n cap ∧ n ≤ cap ∧ cap ≤ maxLen := by
  rcases h.2 with ⟨rfl, rfl⟩ | ⟨g, cap, cur, rfl, hb, hg, hnc, hm, _, _⟩
  · exact ⟨none, 0, rfl, Nat.le_refl _, by simp⟩
  · exact ⟨_, cap, rfl, hnc, hm⟩
theorem own_range (h : w.ownsRow base e size (.slice (some ⟨g, 0, none⟩) n cap) n xs) (o : Nat) (cs : List Value) (hcs : ∀ j u, cs[j]? = some u → xs[o + j]? = some u) : w.rangeAt g o cs := by
  intro j u hj
  have := h.cells (g := g) rfl (o + j) u (hcs j u hj)
  rwa [Addr.add_lit, Nat.zero_add] at this
theorem own_there (h : w.ownsRow base e size (.slice (some ⟨g, 0, none⟩) n cap) n xs) (o m : Nat) (ho : o + m ≤ n * size) : w.there g o m := by
  intro j hj
  refine ⟨?_, h.frozenAt _⟩
  rw [h.cellAt _ (by omega), List.getElem?_eq_getElem (by rw [h.1]; omega)]
  rfl
theorem own_put : ∀ (news : List Value) (o : Nat) (w : World) (xs : List Value), w.ownsRow base e size (.slice (some ⟨g, 0, none⟩) n cap) n xs → o + news.length ≤ n * size →
    (w.setCells g o news).ownsRow base e size (.slice (some ⟨g, 0, none⟩) n cap) n (putL xs o news) ∧ w.grownBy (w.setCells g o news) (some g)
  | [], _, w, _, h, _ => ⟨h, World.grownBy.refl _ _⟩
  | u :: r, o, w, xs, h, ho => by
    simp only [List.length_cons] at ho
    have h1 := h.stored o u
    obtain ⟨a1, a2⟩ := own_put r (o + 1) (w.setCell ⟨g, o, none⟩ u) (xs.set o u) h1.1 (by omega)
    exact ⟨a1, h1.2.trans a2⟩
theorem own_but {w' : World} {L : List Nat} {B : Nat} (h : w.ownsRow base e size v n xs) (hb : But L B w w') (hB : ∀ k, v.ownBlock = some k → k < B ∧ k ∉ L) : w'.ownsRow base e size v n xs := by
  refine ⟨h.1, ?_⟩
  rcases h.2 with hn | ⟨g, cap, cur, rfl, hbs, hgg, rest⟩
  · exact .inl hn
  · obtain ⟨h1, h2⟩ := hB g rfl
    exact .inr ⟨g, cap, cur, rfl, hbs, (hb.block g h1 h2).trans hgg, rest⟩
/-- Rows of different types lie apart. -/
theorem own_apart {e' : TypeId} {size' n' : Nat} {v' : Value} {xs' : List Value} (h : w.ownsRow base e size v n xs) (h' : w.ownsRow base e' size' v' n' xs') (hne : e ≠ e') {k : Nat} (hk : v.ownBlock = some k) : v'.ownBlock ≠ some k := by
  intro hk'
  rcases h.2 with ⟨rfl, _⟩ | ⟨g, cap, cur, rfl, _, hg, _⟩
  · simp [Value.ownBlock] at hk
  · rcases h'.2 with ⟨rfl, _⟩ | ⟨g', cap', cur', rfl, _, hg', _⟩
    · simp [Value.ownBlock] at hk'
    · simp [Value.ownBlock] at hk hk'
      subst hk
      subst hk'
      rw [hg] at hg'
      injection hg' with e1
      injection e1 with _ e2
      exact hne e2
theorem own_row_apart {t : TypeId} {cs : List Value} (h : w.ownsRow base e size v n xs) (h' : RowV w g t cs) (hne : e ≠ t) : v.ownBlock ≠ some g := by
  intro hk
  rcases h.2 with ⟨rfl, _⟩ | ⟨g', cap, cur, rfl, _, hg, _⟩
  · simp [Value.ownBlock] at hk
  · simp [Value.ownBlock] at hk
    subst hk
    unfold RowV at h'
    rw [hg] at h'
    injection h' with e1
    injection e1 with _ e2
    exact hne e2
theorem own_map_apart {H : Type} {P : Program} {k : TypeId} {R : Value → Option (DataW H × List MemPlace)} {b m : Nat} {D : DataW H} (h : w.ownsRow base e size v n xs) (h' : w.ownsMap P k R b m D) : v.ownBlock ≠ some b := by
  intro hk
  obtain ⟨es, cl, hb, _⟩ := h'
  rcases h.2 with ⟨rfl, _⟩ | ⟨g', cap, cur, rfl, _, hg, _⟩
  · simp [Value.ownBlock] at hk
  · simp [Value.ownBlock] at hk
    subst hk
    rw [hg] at hb
    cases hb
theorem row_map_apart {H : Type} {P : Program} {k t : TypeId} {R : Value → Option (DataW H × List MemPlace)} {b m : Nat} {D : DataW H} {cs : List Value} (h : RowV w g t cs) (h' : w.ownsMap P k R b m D) : g ≠ b := by
  rintro rfl
  obtain ⟨es, cl, hb, _⟩ := h'
  unfold RowV at h
  rw [h] at hb
  cases hb
theorem own_lt (h : w.ownsRow base e size v n xs) {k : Nat} (hk : v.ownBlock = some k) : k < w.heap.size := (h.lt k hk).2
theorem own_rebase {base' : Nat} (h : w.ownsRow base e size v n xs) (hb : ∀ k, v.ownBlock = some k → base' ≤ k) : w.ownsRow base' e size v n xs := by
  refine ⟨h.1, ?_⟩
  rcases h.2 with hn | ⟨g, cap, cur, rfl, hbs, rest⟩
  · exact .inl hn
  · exact .inr ⟨g, cap, cur, rfl, hb g rfl, rest⟩
end

theorem map_but {H : Type} {P : Program} {k : TypeId} {R : Value → Option (DataW H × List MemPlace)} {w w' : World} {b m : Nat} {D : DataW H} {L : List Nat} {B : Nat} (h : w.ownsMap P k R b m D) (hb : But L B w w') (hB : b < B) (hL : b ∉ L) : w'.ownsMap P k R b m D := by
  obtain ⟨es, cl, he, r⟩ := h
  exact ⟨es, cl, (hb.block b hB hL).trans he, r⟩
theorem rowV_but {w w' : World} {g : Nat} {t : TypeId} {cs : List Value} {L : List Nat} {B : Nat} (h : RowV w g t cs) (hb : But L B w w') (hB : g < B) (hL : g ∉ L) : RowV w' g t cs := (hb.block g hB hL).trans h
theorem But.grown {L : List Nat} {B : Nat} {a w w' : World} (h : But L B a w) {row : Option Nat} (hg : w.grownBy w' row) (hr : ∀ k, row = some k → k ∈ L ∨ B ≤ k) (hB : B ≤ w.heap.size) : But L B a w' :=
  h.trans ⟨hg.os, hg.tape, hg.output, hg.size, fun k hk hl => hg.block k (by omega) (fun e => by rcases hr k e.symm with h | h; exact hl h; omega)⟩

theorem below_put {B : Nat} {a w : World} (h : Below B a w) {g : Nat} (hg : B ≤ g) (cs : Array Value) : Below B a (w.setRow g cs) :=
  h.trans ⟨rfl, rfl, rfl, by simp, fun k hk => setRow_other w g k _ (by omega)⟩
/-- 'clear(m)'. -/
theorem run_clear_map {H : Type} {P : Program} {w : World} {t k e : TypeId} {R : Value → Option (DataW H × List MemPlace)} {b n : Nat} {D : DataW H} (h : w.ownsMap P k R b n D) (ht : P.underlying t = some (.map k e)) (ty : TypeId) :
    ∃ w', (Builtin.clear_ #[t] ty #[.map (some b)]).run P w = .ok (.tuple #[]) w' ∧ w'.ownsMap P k R b 0 (.map []) ∧ w.mapTurned w' b := by
  obtain ⟨es, cl, hb, F, _, _⟩ := h
  refine ⟨setBlock w b (.map #[] cl), ?_, ⟨#[], cl, heap_setBlock_same hb _, ⟨by simp, stamped_empty cl, by simp⟩, Nat.le_refl _, rfl⟩, ⟨es, cl, #[], cl, hb, rfl⟩⟩
  simp [Builtin.clear_, run_underlying ht, Go.MapKept.run_getObj_map hb, Go.MapKept.run_setObj_map _ hb, Result.andThen]
  rfl

/-! ### Sectors, changes -/
abbrev Sec := { xs : List UInt8 // xs.length = 256 }
def Sec.cs (s : Sec) : List Value := cells s.1
def Sec.val (s : Sec) : Value := .agg s.cs.toArray
theorem Sec.cs_length (s : Sec) : s.cs.length = 256 := by rw [Sec.cs, cells_length, s.2]
theorem Sec.one (s : Sec) : ∀ u ∈ s.cs, u.oneCell' = true := cells_one _
def zeroSec : Sec := ⟨List.replicate 256 0, List.length_replicate ..⟩
def fillSec (b : UInt8) : Sec := ⟨List.replicate 256 b, List.length_replicate ..⟩
abbrev Chg := Nat × Sec
def Chg.cs (c : Chg) : List Value := .int .i64 (c.1 : Int) :: c.2.cs
theorem Chg.cs_length (c : Chg) : c.cs.length = 257 := by rw [Chg.cs, List.length_cons, Sec.cs_length]
theorem Chg.one (c : Chg) : ∀ u ∈ c.cs, u.oneCell' = true := by
  intro u hu
  rcases List.mem_cons.1 hu with rfl | h
  · rfl
  · exact Sec.one _ u h
def secs (l : List Sec) : List Value := l.flatMap Sec.cs
def chgs (l : List Chg) : List Value := l.flatMap Chg.cs
theorem secs_length (l : List Sec) : (secs l).length = l.length * 256 := flat_length Sec.cs_length l
theorem chgs_length (l : List Chg) : (chgs l).length = l.length * 257 := flat_length Chg.cs_length l
theorem secs_one (l : List Sec) : ∀ u ∈ secs l, u.oneCell' = true := by
  intro u hu
  obtain ⟨s, _, h⟩ := List.mem_flatMap.1 hu
  exact Sec.one s u h
theorem chgs_one (l : List Chg) : ∀ u ∈ chgs l, u.oneCell' = true := by
  intro u hu
  obtain ⟨s, _, h⟩ := List.mem_flatMap.1 hu
  exact Chg.one s u h
theorem secs_append (l m : List Sec) : secs (l ++ m) = secs l ++ secs m := List.flatMap_append
theorem chgs_append (l m : List Chg) : chgs (l ++ m) = chgs l ++ chgs m := List.flatMap_append
theorem chgs_snoc (l : List Chg) (c : Chg) : chgs (l ++ [c]) = chgs l ++ c.cs := by rw [chgs_append]; simp [chgs]
theorem secs_snoc (l : List Sec) (c : Sec) : secs (l ++ [c]) = secs l ++ c.cs := by rw [secs_append]; simp [secs]
theorem secs_put {l : List Sec} {i : Nat} (hi : i < l.length) (s : Sec) : putL (secs l) (i * 256) s.cs = secs (l.set i s) := flat_put Sec.cs_length hi s

section
variable {w : World} {base : Nat} {e : TypeId} {n cap g : Nat}
theorem sec_range {l : List Sec} (h : w.ownsRow base e 256 (.slice (some ⟨g, 0, none⟩) n cap) n (secs l)) {i : Nat} {s : Sec} (hi : l[i]? = some s) : w.rangeAt g (i * 256) s.cs :=
  own_range h _ _ fun j u hj => by
    have hlt := (List.getElem?_eq_some_iff.1 hj).1
    rw [Sec.cs_length] at hlt
    rw [secs, flat_get Sec.cs_length hi j hlt]
    exact hj
theorem chg_range {l : List Chg} (h : w.ownsRow base e 257 (.slice (some ⟨g, 0, none⟩) n cap) n (chgs l)) {i : Nat} {c : Chg} (hi : l[i]? = some c) : w.rangeAt g (i * 257) c.cs :=
  own_range h _ _ fun j u hj => by
    have hlt := (List.getElem?_eq_some_iff.1 hj).1
    rw [Chg.cs_length] at hlt
    rw [chgs, flat_get Chg.cs_length hi j hlt]
    exact hj
theorem chg_at {l : List Chg} (h : w.ownsRow base e 257 (.slice (some ⟨g, 0, none⟩) n cap) n (chgs l)) {i : Nat} {c : Chg} (hi : l[i]? = some c) : w.cell? ⟨g, i * 257, none⟩ = some (.int .i64 (c.1 : Int)) := by
  have := chg_range h hi 0 _ rfl
  simpa using this
theorem chg_sec {l : List Chg} (h : w.ownsRow base e 257 (.slice (some ⟨g, 0, none⟩) n cap) n (chgs l)) {i : Nat} {c : Chg} (hi : l[i]? = some c) : w.rangeAt g (i * 257 + 1) c.2.cs := by
  intro j u hj
  have := chg_range h hi (j + 1) u (by simpa [Chg.cs] using hj)
  rw [Nat.add_assoc, Nat.add_comm 1 j]
  exact this
end

/-! ### A change built, and laid into a row of its own -/
theorem fold_putL (o : Nat) : ∀ (vs : List Value) (k : Nat) (cs : Array Value), (vs.zipIdx k).foldl (fun cs (x : Value × Nat) => cs.setIfInBounds (o + x.2) x.1) cs = (putL cs.toList (o + k) vs).toArray
  | [], k, cs => by simp [putL]
  | v :: vs, k, cs => by
    rw [List.zipIdx_cons, List.foldl_cons, fold_putL o vs (k + 1), putL]
    simp [Nat.add_assoc]
theorem fill_part (place : Nat → Option (Nat × Nat)) (cs : List Value) (i : Nat) (v : Value) (vs : List Value) (rest : List (Nat × Value)) (off size : Nat) (hp : place i = some (off, size)) (hv : v.cells = vs.toArray) (h1 : vs.length = size) (h2 : off + size ≤ cs.length) :
    Instr.fill place cs.toArray ((i, v) :: rest) = Instr.fill place (putL cs off vs).toArray rest := by
  rw [Instr.fill]
  have e : ¬ ((v.cells.size ≠ size || off + v.cells.size > cs.toArray.size) = true) := by
    rw [hv]
    simp
    omega
  simp only [hp, if_neg e]
  congr 1
  rw [hv, ← Array.foldl_toList, Array.toList_zipIdx]
  exact fold_putL off vs 0 _
theorem built_chg {P : Program} {t : TypeId} {fields : Array Field} (hz : (P.info? t).bind (·.zero) = some (.agg (Value.int .i64 0 :: zeroSec.cs).toArray)) (hu : P.underlying t = some (.struct fields))
    (hp : fields.toList.mapM (fun f => (P.info? f.type).map fun i => (f.offset, i.size)) = some [(0, 1), (1, 256)]) (x : Int) (s : Sec) :
    P.built t [(0, .int .i64 x), (1, .agg s.cs.toArray)] = some (Value.int .i64 x :: s.cs).toArray := by
  obtain ⟨it, hi, hz'⟩ := Option.bind_eq_some_iff.1 hz
  unfold Program.built
  simp only [hi, hu, hz', hp]
  have e : (Value.agg (Value.int .i64 0 :: zeroSec.cs).toArray).cells = (Value.int .i64 0 :: zeroSec.cs).toArray := rfl
  rw [e, fill_part _ _ 0 (.int .i64 x) [.int .i64 x] _ 0 1 rfl rfl rfl (by simp [Sec.cs_length]), fill_part _ _ 1 (.agg s.cs.toArray) s.cs _ 1 256 rfl rfl (Sec.cs_length s) (by rw [putL_length]; simp [Sec.cs_length])]
  have h := putL_mid s.cs [.int .i64 x] zeroSec.cs [] (by rw [Sec.cs_length, Sec.cs_length])
  simp only [List.append_nil, List.length_cons, List.length_nil, List.singleton_append] at h
  show some (putL (.int .i64 x :: zeroSec.cs) 1 s.cs).toArray = _
  rw [h]
/-- One operation of a still region, by what it answers. -/
theorem wpStill_exec {P : Program} {ops : Array Oper} {w : World} {Q : Act → Prop} {a : Act} {o : Oper} {rest : List Oper} (v : Value) (hw : Region.wanted o (yielded ops a.tmps) = true) (he : (execOp a.eval o).run P w = .ok (.value v) w)
    (h : wpStill P ops w Q rest (a.put o.dst v)) : wpStill P ops w Q (o :: rest) a := by
  refine wpStill_step (fun K hK => ?_)
  rw [if_pos hw]
  unfold Oper.still
  rw [he]
  exact ⟨rfl, hK _ h⟩
theorem exec_built {P : Program} {W : World} {ρ : Operand → Value} {o : Oper} (t : TypeId) (parts : Array (Nat × Operand)) (ho : o.op = .build t parts) (cs : List Value)
    (hf : P.built t (parts.toList.map fun p => (p.1, ρ p.2)) = some cs.toArray) : (execOp ρ o).run P W = .ok (.value (.agg cs.toArray)) W := by
  have hf : P.built t (parts.map fun (i, x) => (i, ρ x)).toList = some cs.toArray := by rw [Array.toList_map]; exact hf
  unfold execOp
  simp only [ho, Sem.run_bind, run_build W t _ _ hf, Result.andThen_ok, Sem.run_pure]
/-- 'append(s, x)' of one element lays it into a row of its own first. -/
theorem wp_buildSlice_one {P : Program} {o : Oper} {a : Act} {w : World} {K : Act → World → Prop} {Q : Exit → Act → World → Prop} (t e : TypeId) (x : Operand) (ho : o.op = .buildSlice t 1 #[(0, x)]) (cs : List Value) (hx : a.eval x = .agg cs.toArray)
    (hu : P.underlying t = some (.slice e)) {z : Value} {size bytes : Nat} (hi : (P.info? e).map (fun i => (i.zero, i.size, i.bytes)) = some (some z, size, bytes)) (hl : cs.length = size) (h0 : 0 < size) (h1 : size ≤ 16777216)
    (h : K (a.put o.dst (.slice (some ⟨w.heap.size, 0, none⟩) 1 1)) (w.alloc (.cells cs.toArray e))) : o.wp P a w K Q := by
  obtain ⟨i, hie, hz, hs, hb⟩ := info_parts hi
  refine wp_buildSlice t e 1 _ ho cs.toArray i z hu hie hz (by rw [hs]; omega) (by rw [hs]; omega) ?_ h
  rw [hs, Nat.one_mul]
  simp only [List.map_toArray, List.map_cons, List.map_nil, hx]
  have hlen : (((Array.range size).map (z.cells[· % z.cells.size]!)).toList).length = size := by simp
  have e2 := fill_part (fun i => some (i * size, size)) ((Array.range size).map (z.cells[· % z.cells.size]!)).toList 0 (.agg cs.toArray) cs [] 0 size (by simp) rfl hl (by rw [hlen]; omega)
  rw [Array.toArray_toList] at e2
  rw [e2]
  have h3 := putL_mid cs [] ((Array.range size).map (z.cells[· % z.cells.size]!)).toList [] (by rw [hlen, hl])
  simp only [List.append_nil, List.nil_append, List.length_nil] at h3
  rw [Instr.fill, h3]

theorem eql_slice_nil {P : Program} (w : World) {t e : TypeId} (a : Option Addr) (n c : Nat) (h : P.underlying t = some (.slice e)) : (binOp .eql t (.slice a n c) (.slice none 0 0)).run P w = .ok (.bool a.isNone) w := by
  have e1 : ∀ d, (Op.equalIn (d + 1) t (.slice a n c) (.slice none 0 0)).run P w = .ok a.isNone w := by intro d; cases a <;> simp [Op.equalIn, run_underlying h]
  simp only [binOp]
  simp [show Op.equal t (.slice a n c) (.slice none 0 0) = Op.equalIn (9999 + 1) t (.slice a n c) (.slice none 0 0) from rfl, e1 9999]
theorem eql_map_nil {P : Program} (w : World) {t k e : TypeId} (a : Option Nat) (h : P.underlying t = some (.map k e)) : (binOp .eql t (.map a) (.map none)).run P w = .ok (.bool a.isNone) w := by
  have e1 : ∀ d, (Op.equalIn (d + 1) t (.map a) (.map none)).run P w = .ok a.isNone w := by intro d; cases a <;> simp [Op.equalIn, run_underlying h]
  simp only [binOp]
  simp [show Op.equal t (.map a) (.map none) = Op.equalIn (9999 + 1) t (.map a) (.map none) from rfl, e1 9999]
theorem ite_yes {c : Bool} {A B : Prop} (hc : c = true) (h : A) : if c = true then A else B := by rw [if_pos hc]; exact h
/-- append, at an operation, with where the new row lies. -/
theorem wp_append_at {P : Program} {o : Oper} {a : Act} {w : World} {K : Act → World → Prop} {Q : Exit → Act → World → Prop} (s x : Operand) (t : TypeId) (ho : o.op = .call { callee := .builtin .append, args := #[s, x], argTypes := #[t, t] })
    (base : Nat) (e : TypeId) {z : Value} {size bytes : Nat} (ht : P.underlying t = some (.slice e)) (hi : (P.info? e).map (fun i => (i.zero, i.size, i.bytes)) = some (some z, size, bytes)) (hzs : z.cells.size = size) (hsz : 0 < size)
    (v : Value) (n : Nat) (xs : List Value) (hs : a.eval s = v) (hown : w.ownsRow base e size v n xs)
    (ad : Addr) (m c : Nat) (news : List Value) (hx : a.eval x = .slice (some ad) m c) (hl : news.length = m * size) (hnews : ∀ j u, news[j]? = some u → w.cell? (ad.add j) = some u) (h1 : ∀ u ∈ news, u.oneCell' = true)
    (h63 : n + m ≤ maxLen) (hbytes : (n + m) * bytes ≤ 140737488355328) (hbase : base ≤ w.heap.size)
    (h : ∀ v' w', w'.ownsRow base e size v' (n + m) (xs ++ news) → w.grownBy w' v.ownBlock → (v'.ownBlock = v.ownBlock ∨ v'.ownBlock = some w.heap.size) → K (a.put o.dst v') w') : o.wp P a w K Q := by
  obtain ⟨i, hie, hz, hs1, hb1⟩ := info_parts hi
  obtain ⟨v', w', hr, h2, h3, h4, h5⟩ := run_append_own_at (P := P) w base t o.type e i z size bytes ht hie hz hs1 hb1 hzs hsz v n xs hown ad m c news hl hnews h1 h63 hbytes hbase
  unfold Oper.wp execOp
  simp only [ho, resolve, invoke, builtin, Sem.run_bind, Sem.run_pure, Result.andThen_ok, List.map_toArray, List.map_cons, List.map_nil, hs, hx, hr]
  exact h v' w' h2 h3 h5
/-- What has just been laid into a block of its own. -/
theorem news_new (w : World) (cs : List Value) (t : TypeId) : ∀ j u, cs[j]? = some u → (w.alloc (.cells cs.toArray t)).cell? ((⟨w.heap.size, 0, none⟩ : Addr).add j) = some u := by
  intro j u hj
  rw [Addr.add_lit, Nat.zero_add]
  exact (RowV.new w t cs).cell hj

/-! ### The disk as it is told -/
structure Dk where
  dur : List Sec
  wait : List Chg
  steps : Nat
  fuse : Option Nat
  down : Bool

namespace Dk
def new (n : Nat) : Dk := ⟨List.replicate n zeroSec, [], 0, none, false⟩
/-- The power is gone, or goes at the next write or flush. -/
def dead (d : Dk) : Bool := d.down || d.fuse == some 0
def stepped (d : Dk) : Dk := if d.dead then { d with down := true } else { d with fuse := d.fuse.map (· - 1), steps := d.steps + 1 }
def settle (l : List Sec) (ws : List Chg) : List Sec := ws.foldl (fun l c => l.set c.1 c.2) l
def look (l : List Sec) (ws : List Chg) (at_ : Nat) : Sec := ws.foldl (fun s c => if c.1 = at_ then c.2 else s) (l.getD at_ zeroSec)
def has (d : Dk) (x : Int) : Bool := decide (0 ≤ x) && decide (x < d.dur.length)
def read (d : Dk) (x : Int) : Sec × Int := if d.has x then if d.down then (zeroSec, 4) else (look d.dur d.wait x.toNat, 0) else (zeroSec, 2)
def write (d : Dk) (x : Int) (s : Sec) : Dk × Int := if d.has x then if d.dead then (d.stepped, 4) else ({ d.stepped with wait := d.wait ++ [(x.toNat, s)] }, 0) else (d, 2)
def flush (d : Dk) : Dk × Int := if d.dead then (d.stepped, 4) else ({ d.stepped with dur := settle d.dur d.wait, wait := [] }, 0)
def setFuse (d : Dk) (x : Int) : Dk := { d with fuse := if x < 0 then none else some x.toNat }
/-- Which of the writes are kept. -/
def kept (keep : List Bool) (ws : List Chg) : List Chg := (ws.zip keep).filterMap fun p => if p.2 then some p.1 else none
def crash (d : Dk) (keep : List Bool) : Dk × Int := ({ d with dur := settle d.dur (kept keep d.wait), wait := [], fuse := none, down := false }, ((kept keep d.wait).length : Int))
/-- What the words lean on: each waiting write has its sector; the numbers are far from the end of theirs. -/
structure Ok (d : Dk) : Prop where
  at_ : ∀ c ∈ d.wait, c.1 < d.dur.length
  pos : 0 < d.dur.length
  dur : d.dur.length ≤ 4096
  wait : d.wait.length ≤ 1000000
  steps : d.steps ≤ 1000000
  fuse : ∀ n, d.fuse = some n → n ≤ 9223372036854775807
end Dk

theorem settle_length (ws : List Chg) : ∀ l : List Sec, (Dk.settle l ws).length = l.length := by
  induction ws with
  | nil => intro l; rfl
  | cons c ws ih => intro l; show (Dk.settle (l.set c.1 c.2) ws).length = _; rw [ih]; simp
theorem settle_snoc (l : List Sec) (ws : List Chg) (c : Chg) : Dk.settle l (ws ++ [c]) = (Dk.settle l ws).set c.1 c.2 := by simp [Dk.settle, List.foldl_append]
theorem look_snoc (l : List Sec) (ws : List Chg) (c : Chg) (i : Nat) : Dk.look l (ws ++ [c]) i = if c.1 = i then c.2 else Dk.look l ws i := by simp [Dk.look, List.foldl_append]
theorem look_settle (l : List Sec) (ws : List Chg) (h : ∀ c ∈ ws, c.1 < l.length) (i : Nat) : Dk.look l ws i = (Dk.settle l ws).getD i zeroSec := by
  induction ws using snocInd with
  | nil => rfl
  | append_singleton ws c ih =>
    have hc := h c (by simp)
    rw [look_snoc, settle_snoc, ih (fun c hc => h c (by simp [hc]))]
    rw [List.getD_eq_getElem?_getD, List.getD_eq_getElem?_getD, List.getElem?_set]
    by_cases e : c.1 = i
    · subst e
      rw [if_pos rfl, if_pos rfl, if_pos (by rw [settle_length]; exact hc)]
      rfl
    · rw [if_neg e, if_neg e]

/-! ### The map of the last writes -/
def lastD (ws : List Chg) : DataW Unit :=
  (ws.foldl (fun (p : DataW Unit × Nat) c => (p.1.put (.int .i64 (c.1 : Int)) (.lit (.int .i64 (p.2 : Int))), p.2 + 1)) (.map [], 0)).1
theorem lastD_num (ws : List Chg) : (ws.foldl (fun (p : DataW Unit × Nat) c => (p.1.put (.int .i64 (c.1 : Int)) (.lit (.int .i64 (p.2 : Int))), p.2 + 1)) (.map [], 0)).2 = ws.length := by
  induction ws using snocInd with
  | nil => rfl
  | append_singleton ws c ih => rw [List.foldl_append, List.length_append]; simp only [List.foldl_cons, List.foldl_nil, ih, List.length_cons, List.length_nil]
theorem lastD_snoc (ws : List Chg) (c : Chg) : lastD (ws ++ [c]) = (lastD ws).put (.int .i64 (c.1 : Int)) (.lit (.int .i64 (ws.length : Int))) := by
  unfold lastD
  rw [List.foldl_append]
  simp only [List.foldl_cons, List.foldl_nil]
  rw [lastD_num]
theorem lastD_isMap (ws : List Chg) : IsMap (lastD ws) := by
  induction ws using snocInd with
  | nil => exact ⟨[], rfl⟩
  | append_singleton ws c ih => rw [lastD_snoc]; exact ih.put _ _
theorem keyLit_i64 {n : Int} : WideAt.IsKeyLit (.int .i64 n) := by simp [WideAt.IsKeyLit]
/-- What the map tells: the place of the last write to a sector, which is what a search would find. -/
theorem lastD_tells (l : List Sec) (ws : List Chg) (i : Nat) :
    (Maps.has (lastD ws) (.int .i64 (i : Int)) = true ∧ ∃ (j : Nat) (c : Chg), ws[j]? = some c ∧ (∀ z, (lastD ws).atKey (.int .i64 (i : Int)) z = .lit (.int .i64 (j : Int))) ∧ c.2 = Dk.look l ws i) ∨
    (Maps.has (lastD ws) (.int .i64 (i : Int)) = false ∧ Dk.look l ws i = l.getD i zeroSec) := by
  induction ws using snocInd with
  | nil => exact .inr ⟨rfl, rfl⟩
  | append_singleton ws c ih =>
    rw [lastD_snoc, look_snoc]
    by_cases e : c.1 = i
    · subst e
      refine .inl ⟨has_put_same (lastD_isMap ws) keyLit_i64 _, ws.length, c, by simp, fun z => atKey_put_same (lastD_isMap ws) keyLit_i64 _ _, by rw [if_pos rfl]⟩
    · have hne : (Lit.int .i64 (i : Int)) ≠ .int .i64 (c.1 : Int) := by
        intro h
        injection h with _ h
        exact e (by omega)
      rw [has_put_other hne, if_neg e]
      rcases ih with ⟨h1, j, c', h2, h3, h4⟩ | ⟨h1, h2⟩
      · exact .inl ⟨h1, j, c', by rw [List.getElem?_append_left (List.getElem?_eq_some_iff.1 h2).1]; exact h2, fun z => by rw [atKey_put_other hne]; exact h3 z, h4⟩
      · exact .inr ⟨h1, h2⟩
theorem stepped_wait (d : Dk) : d.stepped.wait = d.wait := by unfold Dk.stepped; split <;> rfl
theorem stepped_dur (d : Dk) : d.stepped.dur = d.dur := by unfold Dk.stepped; split <;> rfl
end Go.Proofs.Ytmcnhcbibcjgnaa
namespace Go.Proofs.Ytmcnhcbibcjgnaa
set_option linter.unusedVariables false

/-- How many chunks a text of n bytes has; how long chunk i is. -/
def countK (n : Nat) : Nat := (n + 255) / 256
def partK (n i : Nat) : Nat := min 256 (n - i * 256)
theorem countK_zero : countK 0 = 0 := rfl
theorem countK_pos {n : Nat} (h : 0 < n) : 0 < countK n := by unfold countK; omega
theorem countK_le (n : Nat) : n ≤ countK n * 256 := by unfold countK; omega
theorem countK_lt {n i : Nat} : i < countK n ↔ i * 256 < n := by unfold countK; omega
theorem countK_step {n : Nat} (h : 256 < n) : countK n = countK (n - 256) + 1 := by unfold countK; omega
theorem countK_one {n : Nat} (h : 0 < n) (h2 : n ≤ 256) : countK n = 1 := by unfold countK; omega
theorem partK_zero {n i : Nat} (h : ¬ i < countK n) : partK n i = 0 := by have := countK_lt (n := n) (i := i); unfold partK; omega
theorem partK_pos {n i : Nat} (h : i < countK n) : 0 < partK n i := by have := countK_lt.1 h; unfold partK; omega
theorem partK_le (n i : Nat) : partK n i ≤ 256 := by unfold partK; omega
theorem partK_full {n i : Nat} (h : i + 1 < countK n) : partK n i = 256 := by have := countK_lt.1 h; unfold partK; omega
/-- Chunk i; all of them. -/
def chunkK (b : List UInt8) (i : Nat) : List UInt8 := (b.drop (i * 256)).take 256
theorem chunkK_length (b : List UInt8) (i : Nat) : (chunkK b i).length = partK b.length i := by simp [chunkK, partK]
def chunksK (b : List UInt8) : List (List UInt8) := (List.range (countK b.length)).map (chunkK b)
theorem chunksK_length (b : List UInt8) : (chunksK b).length = countK b.length := by simp [chunksK]
theorem chunksK_nil : chunksK [] = [] := rfl
theorem chunksK_get {b : List UInt8} {i : Nat} (h : i < countK b.length) : (chunksK b)[i]? = some (chunkK b i) := by
  rw [chunksK, List.getElem?_map, List.getElem?_range h]
  rfl
theorem chunkK_zero (b : List UInt8) : chunkK b 0 = b.take 256 := by simp [chunkK]
theorem chunkK_drop (b : List UInt8) (i : Nat) : chunkK (b.drop 256) i = chunkK b (i + 1) := by
  unfold chunkK
  rw [List.drop_drop]
  congr 2
  omega
/-- As the reference cuts. -/
theorem chunksK_one {b : List UInt8} (h : 0 < b.length) (h2 : b.length ≤ 256) : chunksK b = [b] := by
  unfold chunksK
  rw [countK_one h h2]
  simp [chunkK, List.take_of_length_le h2]
set_option maxRecDepth 10000 in
theorem chunksK_step {b : List UInt8} (h : 256 < b.length) : chunksK b = b.take 256 :: chunksK (b.drop 256) := by
  unfold chunksK
  rw [countK_step h, List.range_succ_eq_map, List.map_cons, chunkK_zero, List.map_map, List.length_drop]
  congr 1
  apply List.map_congr_left
  intro i _
  exact (chunkK_drop b i).symm
theorem chunksK_upto (b : List UInt8) : ∀ k, k ≤ countK b.length → ((List.range k).map (chunkK b)).flatten = b.take (k * 256)
  | 0, _ => by simp
  | k + 1, h => by
    rw [List.range_succ, List.map_append, List.flatten_append, chunksK_upto b k (by omega), List.map_singleton, List.flatten_singleton, chunkK, Nat.succ_mul, List.take_add]
/-- The chunks put together are the text. -/
theorem chunksK_flat (b : List UInt8) : (chunksK b).flatten = b := by
  rw [chunksK, chunksK_upto b _ (Nat.le_refl _), List.take_of_length_le (countK_le _)]
/-- A chunk as a sector: noughts behind it. -/
def padK (c : List UInt8) : List UInt8 := c.take 256 ++ List.replicate (256 - c.length) 0
theorem padK_length (c : List UInt8) : (padK c).length = 256 := by simp [padK]; omega
theorem padK_full {c : List UInt8} (h : c.length = 256) : padK c = c := by simp [padK, h, List.take_of_length_le (Nat.le_of_eq h)]
/-- The bytes of a row of sectors. -/
def flatS (l : List Sec) : List UInt8 := l.flatMap (·.1)
theorem flatS_length (l : List Sec) : (flatS l).length = l.length * 256 := by
  induction l with
  | nil => rfl
  | cons s l ih => show (s.1 ++ flatS l).length = _; rw [List.length_append, ih, s.2, List.length_cons]; omega
theorem flatS_snoc (l : List Sec) (s : Sec) : flatS (l ++ [s]) = flatS l ++ s.1 := by simp [flatS]
theorem flatS_take {l : List Sec} {k : Nat} {s : Sec} (h : l[k]? = some s) : flatS (l.take (k + 1)) = flatS (l.take k) ++ s.1 := by
  rw [List.take_add_one, h]
  exact flatS_snoc _ _
/-- What Join answers: the bytes, and the code. -/
def joinC (size : Int) (l : List Sec) : Int :=
  if size < 1 ∨ 2048 < size then 15 else if l.length ≠ countK size.toNat then 1 else if ((flatS l).drop size.toNat).all (· == 0) = true then 0 else 5
def joinB (size : Int) (l : List Sec) : List UInt8 := if joinC size l = 0 then (flatS l).take size.toNat else []
/-- The words whose sum is an address. -/
def saidK (c : List UInt8) : List UInt8 := [99, 104, 117, 110, 107] ++ c
def wordsK (n : Nat) (as : List (List UInt8)) : List UInt8 := [116, 101, 120, 116] ++ putB n 4 ++ as.flatten
def adrK13 (c : List UInt8) : List UInt8 := shaB (saidK c)
def textK (b : List UInt8) : List UInt8 := shaB (wordsK b.length ((chunksK b).map adrK13))
/-- The laws' own example. -/
def exB : List UInt8 := List.replicate 299 0 ++ [7]
theorem exB_differ : adrK13 (chunkK exB 0) ≠ adrK13 (chunkK exB 1) := by decide +kernel
end Go.Proofs.Ytmcnhcbibcjgnaa
namespace Go.Proofs.Ytmcnhcbibcjgnaa
set_option linter.unusedVariables false

/-- A superblock: a plan and the number of mounts. -/
structure Sb where
  s : Int
  t : Int
  c : Int
  a : Int
  m : Int
  deriving DecidableEq
namespace Sb
def ok (x : Sb) : Bool := decide (1 ≤ x.s) && decide (x.s ≤ 200) && decide (1 ≤ x.t) && decide (x.t ≤ 40) && decide (1 ≤ x.c) && decide (x.c ≤ 40) && decide (1 ≤ x.a) && decide (x.a ≤ 80) && decide (0 ≤ x.m) && decide (x.m ≤ 1099511627776)
theorem ok_iff {x : Sb} : x.ok = true ↔ (1 ≤ x.s ∧ x.s ≤ 200) ∧ (1 ≤ x.t ∧ x.t ≤ 40) ∧ (1 ≤ x.c ∧ x.c ≤ 40) ∧ (1 ≤ x.a ∧ x.a ≤ 80) ∧ 0 ≤ x.m ∧ x.m ≤ 1099511627776 := by
  simp [ok, and_assoc]
def magic : List UInt8 := [77, 79, 82, 84, 77, 65, 73, 78]
/-- The twenty-four bytes. -/
def body (x : Sb) : List UInt8 := magic ++ putB x.s.toNat 2 ++ putB x.t.toNat 2 ++ putB x.c.toNat 2 ++ putB x.a.toNat 2 ++ putB x.m.toNat 8
theorem body_length (x : Sb) : x.body.length = 24 := by simp [body, putB_length, magic]
/-- Its bytes with noughts behind them. -/
def plain (x : Sb) : List UInt8 := x.body ++ List.replicate 228 0
theorem plain_length (x : Sb) : x.plain.length = 252 := by rw [plain, List.length_append, body_length, List.length_replicate]
def sec (x : Sb) : Sec := ⟨sealB x.plain, by rw [sealB_length, plain_length]⟩
end Sb
/-- The number of k bytes from i on. -/
def numAt (l : List UInt8) (i k : Nat) : Nat := leN ((l.drop i).take k)
/-- What stands in a sector, if anything does. -/
def candS (x : Sec) : Sb := ⟨(numAt x.1 8 2 : Nat), (numAt x.1 10 2 : Nat), (numAt x.1 12 2 : Nat), (numAt x.1 14 2 : Nat), (numAt x.1 16 8 : Nat)⟩
def getS (x : Sec) : Option Sb := if (candS x).ok = true ∧ (candS x).sec = x then some (candS x) else none

theorem numAt_mid (a b c : List UInt8) {i k : Nat} (hi : a.length = i) (hk : b.length = k) : numAt (a ++ b ++ c) i k = leN b := by
  subst hi hk
  rw [numAt, List.append_assoc, List.drop_append_of_le_length (Nat.le_refl _), List.drop_length, List.nil_append, List.take_append_of_le_length (Nat.le_refl _), List.take_length]
theorem candS_sec {b : Sb} (h : b.ok = true) : candS b.sec = b := by
  obtain ⟨⟨s1, s2⟩, ⟨t1, t2⟩, ⟨c1, c2⟩, ⟨a1, a2⟩, m1, m2⟩ := Sb.ok_iff.1 h
  have e : b.sec.1 = Sb.magic ++ putB b.s.toNat 2 ++ putB b.t.toNat 2 ++ putB b.c.toNat 2 ++ putB b.a.toNat 2 ++ putB b.m.toNat 8 ++ (List.replicate 228 0 ++ four (crcOf b.plain)) := by
    show sealB b.plain = _
    simp only [sealB, Sb.plain, Sb.body, List.append_assoc]
  have l0 : Sb.magic.length = 8 := rfl
  have q1 : numAt b.sec.1 8 2 = b.s.toNat := by
    rw [e, show Sb.magic ++ putB b.s.toNat 2 ++ putB b.t.toNat 2 ++ putB b.c.toNat 2 ++ putB b.a.toNat 2 ++ putB b.m.toNat 8 ++ (List.replicate 228 0 ++ four (crcOf b.plain)) = Sb.magic ++ putB b.s.toNat 2 ++ (putB b.t.toNat 2 ++ putB b.c.toNat 2 ++ putB b.a.toNat 2 ++ putB b.m.toNat 8 ++ (List.replicate 228 0 ++ four (crcOf b.plain))) by simp only [List.append_assoc],
      numAt_mid _ _ _ l0 (putB_length _ _), leN_putB]
    omega
  have q2 : numAt b.sec.1 10 2 = b.t.toNat := by
    rw [e, show Sb.magic ++ putB b.s.toNat 2 ++ putB b.t.toNat 2 ++ putB b.c.toNat 2 ++ putB b.a.toNat 2 ++ putB b.m.toNat 8 ++ (List.replicate 228 0 ++ four (crcOf b.plain)) = (Sb.magic ++ putB b.s.toNat 2) ++ putB b.t.toNat 2 ++ (putB b.c.toNat 2 ++ putB b.a.toNat 2 ++ putB b.m.toNat 8 ++ (List.replicate 228 0 ++ four (crcOf b.plain))) by simp only [List.append_assoc],
      numAt_mid _ _ _ (by simp [putB_length, l0]) (putB_length _ _), leN_putB]
    omega
  have q3 : numAt b.sec.1 12 2 = b.c.toNat := by
    rw [e, show Sb.magic ++ putB b.s.toNat 2 ++ putB b.t.toNat 2 ++ putB b.c.toNat 2 ++ putB b.a.toNat 2 ++ putB b.m.toNat 8 ++ (List.replicate 228 0 ++ four (crcOf b.plain)) = (Sb.magic ++ putB b.s.toNat 2 ++ putB b.t.toNat 2) ++ putB b.c.toNat 2 ++ (putB b.a.toNat 2 ++ putB b.m.toNat 8 ++ (List.replicate 228 0 ++ four (crcOf b.plain))) by simp only [List.append_assoc],
      numAt_mid _ _ _ (by simp [putB_length, l0]) (putB_length _ _), leN_putB]
    omega
  have q4 : numAt b.sec.1 14 2 = b.a.toNat := by
    rw [e, show Sb.magic ++ putB b.s.toNat 2 ++ putB b.t.toNat 2 ++ putB b.c.toNat 2 ++ putB b.a.toNat 2 ++ putB b.m.toNat 8 ++ (List.replicate 228 0 ++ four (crcOf b.plain)) = (Sb.magic ++ putB b.s.toNat 2 ++ putB b.t.toNat 2 ++ putB b.c.toNat 2) ++ putB b.a.toNat 2 ++ (putB b.m.toNat 8 ++ (List.replicate 228 0 ++ four (crcOf b.plain))) by simp only [List.append_assoc],
      numAt_mid _ _ _ (by simp [putB_length, l0]) (putB_length _ _), leN_putB]
    omega
  have q5 : numAt b.sec.1 16 8 = b.m.toNat := by
    rw [e, numAt_mid _ _ _ (by simp [putB_length, l0]) (putB_length _ _), leN_putB]
    omega
  rw [candS, q1, q2, q3, q4, q5, Int.toNat_of_nonneg (by omega), Int.toNat_of_nonneg (by omega), Int.toNat_of_nonneg (by omega), Int.toNat_of_nonneg (by omega), Int.toNat_of_nonneg m1]
theorem getS_sec {b : Sb} (h : b.ok = true) : getS b.sec = some b := by
  rw [getS, candS_sec h, if_pos ⟨h, rfl⟩]
theorem getS_some {x : Sec} {b : Sb} (h : getS x = some b) : b.ok = true ∧ b.sec = x := by
  unfold getS at h
  split at h
  · rename_i hc
    injection h with h
    subst h
    exact hc
  · cases h
theorem getS_iff {x : Sec} {b : Sb} : getS x = some b ↔ b.ok = true ∧ b.sec = x := ⟨getS_some, fun ⟨h, e⟩ => by rw [← e]; exact getS_sec h⟩
/-- A sector that does not hold its sum is none. -/
theorem getS_none {x : Sec} (h : holdsB x.1 = false) : getS x = none := by
  cases hg : getS x with
  | none => rfl
  | some b =>
    obtain ⟨_, e⟩ := getS_some hg
    rw [← e] at h
    have := holdsB_seal b.plain
    rw [show b.sec.1 = sealB b.plain from rfl, this] at h
    cases h
theorem getS_turned {b : Sb} {N M : Nat} (h : N + 32 ≤ 2048) (hM : M < 2 ^ 32) (h0 : M ≠ 0) (x : Sec) (hx : x.1 = turnK b.sec.1 N M 32) : getS x = none := by
  refine getS_none ?_
  rw [hx]
  exact turned_told (holdsB_seal b.plain) (by rw [b.sec.2]; omega) hM h0

/-- Which of two sectors is chosen: the superblock, its number. -/
def chooseS (x y : Sec) : Option (Sb × Nat) :=
  match getS x, getS y with
  | some a, some b => if b.m ≤ a.m then some (a, 0) else some (b, 1)
  | some a, none => some (a, 0)
  | none, some b => some (b, 1)
  | none, none => none
theorem chooseS_some {x y : Sec} {b : Sb} {k : Nat} (h : chooseS x y = some (b, k)) : b.ok = true ∧ ((k = 0 ∧ getS x = some b) ∨ (k = 1 ∧ getS y = some b)) := by
  unfold chooseS at h
  split at h
  · rename_i a b' ha hb
    split at h
    · injection h with h; injection h with h1 h2; subst h1 h2; exact ⟨(getS_some ha).1, .inl ⟨rfl, ha⟩⟩
    · injection h with h; injection h with h1 h2; subst h1 h2; exact ⟨(getS_some hb).1, .inr ⟨rfl, hb⟩⟩
  · rename_i a ha hb
    injection h with h; injection h with h1 h2; subst h1 h2; exact ⟨(getS_some ha).1, .inl ⟨rfl, ha⟩⟩
  · rename_i b' ha hb
    injection h with h; injection h with h1 h2; subst h1 h2; exact ⟨(getS_some hb).1, .inr ⟨rfl, hb⟩⟩
  · cases h
/-- The other sector, with one mount more, is chosen. -/
theorem choose_next {x y : Sec} {b b' : Sb} {k : Nat} (h : chooseS x y = some (b, k)) (hok : b'.ok = true) (hm : b'.m = b.m + 1) :
    (k = 0 ∧ chooseS x b'.sec = some (b', 1)) ∨ (k = 1 ∧ chooseS b'.sec y = some (b', 0)) := by
  obtain ⟨hb, ⟨rfl, hx⟩ | ⟨rfl, hy⟩⟩ := chooseS_some h
  · refine .inl ⟨rfl, ?_⟩
    unfold chooseS
    rw [hx, getS_sec hok]
    exact if_neg (by omega)
  · refine .inr ⟨rfl, ?_⟩
    unfold chooseS
    rw [hy, getS_sec hok]
    exact if_pos (by omega)

/-! ### A disk with two superblocks -/
def Dk.readS (d : Dk) : Option (Sb × Nat) := chooseS (d.dur.getD 0 zeroSec) (d.dur.getD 1 zeroSec)
/-- The disk is up, nothing waits, the superblock b is the chosen one, in sector k. -/
structure SupAt (d : Dk) (b : Sb) (k : Nat) : Prop where
  up : d.down = false
  fuse : d.fuse = none
  wait : d.wait = []
  len : d.dur.length = 9
  read : chooseS (d.dur.getD 0 zeroSec) (d.dur.getD 1 zeroSec) = some (b, k)
def Sb.next (b : Sb) : Sb := { b with m := b.m + 1 }
/-- What a mount makes of a disk that tells b in sector k: the disk, and whether all went well. -/
def Dk.bumped (d : Dk) (b : Sb) (k : Nat) : Dk × Bool :=
  let r := d.write ((1 - k : Nat) : Int) b.next.sec
  if r.2 = 0 then let q := r.1.flush; (q.1, decide (q.2 = 0)) else (r.1, false)
theorem getD_set_at {l : List Sec} {i j : Nat} (hi : i < l.length) (s : Sec) : (l.set i s).getD j zeroSec = if i = j then s else l.getD j zeroSec := by
  rw [List.getD_eq_getElem?_getD, List.getD_eq_getElem?_getD, List.getElem?_set]
  by_cases e : i = j
  · subst e; rw [if_pos rfl, if_pos rfl, if_pos hi]; rfl
  · rw [if_neg e, if_neg e]
/-- The sector of the next superblock written: it is told. -/
theorem SupAt.wrote {d : Dk} {b : Sb} {k : Nat} (h : SupAt d b k) (hok : b.next.ok = true) (e : Dk) (hd : e.dur = d.dur.set (1 - k) b.next.sec) (h1 : e.down = false) (h2 : e.fuse = none) (h3 : e.wait = []) : SupAt e b.next (1 - k) := by
  refine ⟨h1, h2, h3, by rw [hd, List.length_set]; exact h.len, ?_⟩
  rw [hd]
  have hl := h.len
  rcases choose_next h.read hok rfl with ⟨rfl, hc⟩ | ⟨rfl, hc⟩
  · rw [getD_set_at (by omega), getD_set_at (by omega), if_neg (by omega), if_pos rfl]; exact hc
  · rw [getD_set_at (by omega), getD_set_at (by omega), if_pos rfl, if_neg (by omega)]; exact hc
theorem SupAt.same {d : Dk} {b : Sb} {k : Nat} (h : SupAt d b k) (e : Dk) (hd : e.dur = d.dur) (h1 : e.down = false) (h2 : e.fuse = none) (h3 : e.wait = []) : SupAt e b k :=
  ⟨h1, h2, h3, by rw [hd]; exact h.len, by rw [hd]; exact h.read⟩
/-- A mount with any fuse, and a crash behind it: one of the two is told. -/
theorem SupAt.crashed {d : Dk} {b : Sb} {k : Nat} (h : SupAt d b k) (hok : b.next.ok = true) (f : Nat) (keep : Bool) :
    let r := (d.setFuse (f : Int)).bumped b k
    let e := (r.1.crash [keep]).1
    (r.2 = true ∧ SupAt e b.next (1 - k)) ∨ (r.2 = false ∧ (SupAt e b k ∨ SupAt e b.next (1 - k))) := by
  obtain ⟨dur, wait, steps, fuse, down⟩ := d
  have hw : wait = [] := h.wait
  have hu : down = false := h.up
  have hl : dur.length = 9 := h.len
  have hk : k = 0 ∨ k = 1 := by
    rcases (chooseS_some h.read).2 with ⟨e, _⟩ | ⟨e, _⟩ <;> omega
  subst hw hu
  have hhas : ∀ fz, (Dk.mk dur [] steps fz false).has ((1 - k : Nat) : Int) = true := by
    intro fz
    simp [Dk.has, hl]
    omega
  have htn : ((1 - k : Nat) : Int).toNat = 1 - k := by omega
  have hsf : Dk.setFuse ⟨dur, [], steps, fuse, false⟩ (f : Int) = ⟨dur, [], steps, some f, false⟩ := by
    rw [Dk.setFuse, if_neg (by omega)]
    rfl
  rw [hsf]
  clear hsf
  rcases f with _ | _ | f
  · refine .inr ⟨?_, .inl ?_⟩
    · simp [Dk.bumped, Dk.write, hhas, Dk.dead]
    · refine h.same _ ?_ ?_ ?_ ?_ <;> simp [Dk.bumped, Dk.write, hhas, Dk.dead, Dk.stepped, Dk.crash, Dk.kept, Dk.settle]
  · refine .inr ⟨?_, ?_⟩
    · simp [Dk.bumped, Dk.write, hhas, Dk.dead, Dk.stepped, Dk.flush]
    · cases keep
      · refine .inl (h.same _ ?_ ?_ ?_ ?_) <;> simp [Dk.bumped, Dk.write, hhas, Dk.dead, Dk.stepped, Dk.flush, Dk.crash, Dk.kept, Dk.settle]
      · refine .inr (h.wrote hok _ ?_ ?_ ?_ ?_) <;> simp [Dk.bumped, Dk.write, hhas, Dk.dead, Dk.stepped, Dk.flush, Dk.crash, Dk.kept, Dk.settle, htn]
  · refine .inl ⟨?_, h.wrote hok _ ?_ ?_ ?_ ?_⟩ <;> simp [Dk.bumped, Dk.write, hhas, Dk.dead, Dk.stepped, Dk.flush, Dk.crash, Dk.kept, Dk.settle, htn]
end Go.Proofs.Ytmcnhcbibcjgnaa
