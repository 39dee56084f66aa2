/-
  Layer 6, naming no program: sectors and changes as cells; one of them read out of, and stored into, a row of the call's own; the disk as it is told ('Dk') and what each call makes of it; the map of the last writes.
  Layer 11, naming no program: addresses in their bytes' order, entries and their cells, the rule that a table goes by, a table's places as a layout.
  Layer 11, naming no program: tables as rows of places ('Tb'), how many entries they hold, that one set of entries has one table, and what an entry more, an entry instead of another and an entry less make of it.
  Layer 12, naming no program: six places as 252 bytes, sealed; places as sectors ('shelfS'), sectors as places ('readP'); one is the other's way back; different places are different sectors.
  Layer 11, naming no program: one entry more, step by step ('Ins'), and one entry less, step by step ('Del'), on a table's row of places.
  Rows made by make: cells of a type of any size; a row of its own with no room left is a block. No program is named here.
  Layer 11, naming no program: the reference's list of entries: one more, one less; what it shares with a table ('Like').
-/
import Derived.Test.YtiglffkbaddefaaPkMemV
import Derived.Test.YtiglffkbaddefaaPkTrapM
import Derived.Test.YtiglffkbaddefaaPkArrV
import Derived.Deep.MidRow
import Derived.Maps.OwnSet
import Derived.Maps.AppendAt
import Derived.OwnWalk
import Derived.StillTailTactics
import Derived.Great.BuildSlice
import Derived.Test.YtiglffkbaddefaaPkTabM
import Derived.Test.YtiglffkbaddefaaPkHexM
import Derived.Test.YtiglffkbaddefaaPkCrcE
namespace Go.Proofs.Ytiglffkbaddefaa
open Go.RowKit Go.Maps Go.ChangeMaps Go.MapKept Go.WideShapes
set_option linter.unusedVariables false

/-! ### Lists that are laid one behind the other -/
def putL : List Value → Nat → List Value → List Value
  | xs, _, [] => xs
  | xs, o, v :: r => putL (xs.set o v) (o + 1) r
theorem putL_length : ∀ (ys xs : List Value) (o : Nat), (putL xs o ys).length = xs.length
  | [], _, _ => rfl
  | v :: r, xs, o => by rw [putL, putL_length r]; simp
theorem putL_mid : ∀ (ys A B C : List Value), B.length = ys.length → putL (A ++ (B ++ C)) A.length ys = A ++ (ys ++ C)
  | [], A, B, C, h => by
    have : B = [] := List.eq_nil_of_length_eq_zero h
    subst this
    rfl
  | y :: ys, A, [], C, h => by simp at h
  | y :: ys, A, b :: B, C, h => by
    rw [putL, List.set_append_right _ _ (Nat.le_refl _), Nat.sub_self]
    have e := putL_mid ys (A ++ [y]) B C (by simpa using h)
    simp only [List.append_assoc, List.length_append, List.length_cons, List.length_nil, List.cons_append, List.nil_append] at e
    simpa using e

theorem snocInd {α : Type} {motive : List α → Prop} (nil : motive []) (append_singleton : ∀ l a, motive l → motive (l ++ [a])) (ws : List α) : motive ws := by
  have h : ∀ l : List α, motive l.reverse := by
    intro l
    induction l with
    | nil => exact nil
    | cons a l ih => rw [List.reverse_cons]; exact append_singleton _ _ ih
  have := h ws.reverse
  rwa [List.reverse_reverse] at this

section
variable {α : Type} {f : α → List Value} {k : Nat}
theorem flat_length (hf : ∀ a, (f a).length = k) (l : List α) : (l.flatMap f).length = l.length * k := by
  induction l with
  | nil => simp
  | cons a l ih => rw [List.flatMap_cons, List.length_append, hf, ih, List.length_cons, Nat.succ_mul]; omega
theorem flat_split (l : List α) (i : Nat) (a : α) (h : l[i]? = some a) : l.flatMap f = (l.take i).flatMap f ++ (f a ++ (l.drop (i + 1)).flatMap f) := by
  have hi : i < l.length := (List.getElem?_eq_some_iff.1 h).1
  have e : l = l.take i ++ (a :: l.drop (i + 1)) := by
    have h2 : l[i] = a := (List.getElem?_eq_some_iff.1 h).2
    rw [← h2, ← List.drop_eq_getElem_cons hi, List.take_append_drop]
  conv => lhs; rw [e]
  rw [List.flatMap_append, List.flatMap_cons]
theorem flat_get (hf : ∀ a, (f a).length = k) {l : List α} {i : Nat} {a : α} (h : l[i]? = some a) (j : Nat) (hj : j < k) : (l.flatMap f)[i * k + j]? = (f a)[j]? := by
  have hi : i < l.length := (List.getElem?_eq_some_iff.1 h).1
  have hl : ((l.take i).flatMap f).length = i * k := by rw [flat_length hf, List.length_take, Nat.min_eq_left (by omega)]
  rw [flat_split l i a h, List.getElem?_append_right (by omega), hl, Nat.add_sub_cancel_left, List.getElem?_append_left (by rw [hf]; exact hj)]
theorem flat_put (hf : ∀ a, (f a).length = k) {l : List α} {i : Nat} (hi : i < l.length) (a : α) : putL (l.flatMap f) (i * k) (f a) = (l.set i a).flatMap f := by
  have hl : ((l.take i).flatMap f).length = i * k := by rw [flat_length hf, List.length_take, Nat.min_eq_left (by omega)]
  rw [flat_split l i l[i] (List.getElem?_eq_getElem hi), ← hl, putL_mid _ _ _ _ (by rw [hf, hf]), flat_split (l.set i a) i a (by simp [hi])]
  rw [List.take_set_of_le (by omega), List.drop_set_of_lt (by omega)]
end

/-! ### A row of the call's own -/
section
variable {w : World} {base : Nat} {e : TypeId} {size : Nat} {v : Value} {n cap g : Nat} {xs : List Value}
theorem own_form (h : w.ownsRow base e size v n xs) (hn : 0 < n) : ∃ g cap, v = .slice (some ⟨g, 0, none⟩) n cap ∧ n ≤ cap ∧ cap ≤ maxLen ∧ base ≤ g ∧ g < w.heap.size := by
  rcases h.2 with ⟨_, h0⟩ | ⟨g, cap, cur, rfl, hb, hg, hnc, hm, _, _⟩
  · omega
  · exact ⟨g, cap, rfl, hnc, hm, hb, (Array.getElem?_eq_some_iff.1 hg).1⟩
/-- Whatever it is: a slice of that length. -/
theorem own_slice (h : w.ownsRow base e size v n xs) : ∃ A cap, v = .slice A n cap ∧ n ≤ cap ∧ cap ≤ maxLen := by
  rcases h.2 with ⟨rfl, rfl⟩ | ⟨g, cap, cur, rfl, hb, hg, hnc, hm, _, _⟩
  · exact ⟨none, 0, rfl, Nat.le_refl _, by simp⟩
  · exact ⟨_, cap, rfl, hnc, hm⟩
theorem own_range (h : w.ownsRow base e size (.slice (some ⟨g, 0, none⟩) n cap) n xs) (o : Nat) (cs : List Value) (hcs : ∀ j u, cs[j]? = some u → xs[o + j]? = some u) : w.rangeAt g o cs := by
  intro j u hj
  have := h.cells (g := g) rfl (o + j) u (hcs j u hj)
  rwa [Addr.add_lit, Nat.zero_add] at this
theorem own_there (h : w.ownsRow base e size (.slice (some ⟨g, 0, none⟩) n cap) n xs) (o m : Nat) (ho : o + m ≤ n * size) : w.there g o m := by
  intro j hj
  refine ⟨?_, h.frozenAt _⟩
  rw [h.cellAt _ (by omega), List.getElem?_eq_getElem (by rw [h.1]; omega)]
  rfl
theorem own_put : ∀ (news : List Value) (o : Nat) (w : World) (xs : List Value), w.ownsRow base e size (.slice (some ⟨g, 0, none⟩) n cap) n xs → o + news.length ≤ n * size →
    (w.setCells g o news).ownsRow base e size (.slice (some ⟨g, 0, none⟩) n cap) n (putL xs o news) ∧ w.grownBy (w.setCells g o news) (some g)
  | [], _, w, _, h, _ => ⟨h, World.grownBy.refl _ _⟩
  | u :: r, o, w, xs, h, ho => by
    simp only [List.length_cons] at ho
    have h1 := h.stored o u
    obtain ⟨a1, a2⟩ := own_put r (o + 1) (w.setCell ⟨g, o, none⟩ u) (xs.set o u) h1.1 (by omega)
    exact ⟨a1, h1.2.trans a2⟩
theorem own_but {w' : World} {L : List Nat} {B : Nat} (h : w.ownsRow base e size v n xs) (hb : But L B w w') (hB : ∀ k, v.ownBlock = some k → k < B ∧ k ∉ L) : w'.ownsRow base e size v n xs := by
  refine ⟨h.1, ?_⟩
  rcases h.2 with hn | ⟨g, cap, cur, rfl, hbs, hgg, rest⟩
  · exact .inl hn
  · obtain ⟨h1, h2⟩ := hB g rfl
    exact .inr ⟨g, cap, cur, rfl, hbs, (hb.block g h1 h2).trans hgg, rest⟩
/-- Rows of different types lie apart. -/
theorem own_apart {e' : TypeId} {size' n' : Nat} {v' : Value} {xs' : List Value} (h : w.ownsRow base e size v n xs) (h' : w.ownsRow base e' size' v' n' xs') (hne : e ≠ e') {k : Nat} (hk : v.ownBlock = some k) : v'.ownBlock ≠ some k := by
  intro hk'
  rcases h.2 with ⟨rfl, _⟩ | ⟨g, cap, cur, rfl, _, hg, _⟩
  · simp [Value.ownBlock] at hk
  · rcases h'.2 with ⟨rfl, _⟩ | ⟨g', cap', cur', rfl, _, hg', _⟩
    · simp [Value.ownBlock] at hk'
    · simp [Value.ownBlock] at hk hk'
      subst hk
      subst hk'
      rw [hg] at hg'
      injection hg' with e1
      injection e1 with _ e2
      exact hne e2
theorem own_row_apart {t : TypeId} {cs : List Value} (h : w.ownsRow base e size v n xs) (h' : RowV w g t cs) (hne : e ≠ t) : v.ownBlock ≠ some g := by
  intro hk
  rcases h.2 with ⟨rfl, _⟩ | ⟨g', cap, cur, rfl, _, hg, _⟩
  · simp [Value.ownBlock] at hk
  · simp [Value.ownBlock] at hk
    subst hk
    unfold RowV at h'
    rw [hg] at h'
    injection h' with e1
    injection e1 with _ e2
    exact hne e2
theorem own_map_apart {H : Type} {P : Program} {k : TypeId} {R : Value → Option (DataW H × List MemPlace)} {b m : Nat} {D : DataW H} (h : w.ownsRow base e size v n xs) (h' : w.ownsMap P k R b m D) : v.ownBlock ≠ some b := by
  intro hk
  obtain ⟨es, cl, hb, _⟩ := h'
  rcases h.2 with ⟨rfl, _⟩ | ⟨g', cap, cur, rfl, _, hg, _⟩
  · simp [Value.ownBlock] at hk
  · simp [Value.ownBlock] at hk
    subst hk
    rw [hg] at hb
    cases hb
theorem row_map_apart {H : Type} {P : Program} {k t : TypeId} {R : Value → Option (DataW H × List MemPlace)} {b m : Nat} {D : DataW H} {cs : List Value} (h : RowV w g t cs) (h' : w.ownsMap P k R b m D) : g ≠ b := by
  rintro rfl
  obtain ⟨es, cl, hb, _⟩ := h'
  unfold RowV at h
  rw [h] at hb
  cases hb
theorem own_lt (h : w.ownsRow base e size v n xs) {k : Nat} (hk : v.ownBlock = some k) : k < w.heap.size := (h.lt k hk).2
theorem own_rebase {base' : Nat} (h : w.ownsRow base e size v n xs) (hb : ∀ k, v.ownBlock = some k → base' ≤ k) : w.ownsRow base' e size v n xs := by
  refine ⟨h.1, ?_⟩
  rcases h.2 with hn | ⟨g, cap, cur, rfl, hbs, rest⟩
  · exact .inl hn
  · exact .inr ⟨g, cap, cur, rfl, hb g rfl, rest⟩
end

theorem map_but {H : Type} {P : Program} {k : TypeId} {R : Value → Option (DataW H × List MemPlace)} {w w' : World} {b m : Nat} {D : DataW H} {L : List Nat} {B : Nat} (h : w.ownsMap P k R b m D) (hb : But L B w w') (hB : b < B) (hL : b ∉ L) : w'.ownsMap P k R b m D := by
  obtain ⟨es, cl, he, r⟩ := h
  exact ⟨es, cl, (hb.block b hB hL).trans he, r⟩
theorem rowV_but {w w' : World} {g : Nat} {t : TypeId} {cs : List Value} {L : List Nat} {B : Nat} (h : RowV w g t cs) (hb : But L B w w') (hB : g < B) (hL : g ∉ L) : RowV w' g t cs := (hb.block g hB hL).trans h
theorem But.grown {L : List Nat} {B : Nat} {a w w' : World} (h : But L B a w) {row : Option Nat} (hg : w.grownBy w' row) (hr : ∀ k, row = some k → k ∈ L ∨ B ≤ k) (hB : B ≤ w.heap.size) : But L B a w' :=
  h.trans ⟨hg.os, hg.tape, hg.output, hg.size, fun k hk hl => hg.block k (by omega) (fun e => by rcases hr k e.symm with h | h; exact hl h; omega)⟩

theorem below_put {B : Nat} {a w : World} (h : Below B a w) {g : Nat} (hg : B ≤ g) (cs : Array Value) : Below B a (w.setRow g cs) :=
  h.trans ⟨rfl, rfl, rfl, by simp, fun k hk => setRow_other w g k _ (by omega)⟩
/-- 'clear(m)'. -/
theorem run_clear_map {H : Type} {P : Program} {w : World} {t k e : TypeId} {R : Value → Option (DataW H × List MemPlace)} {b n : Nat} {D : DataW H} (h : w.ownsMap P k R b n D) (ht : P.underlying t = some (.map k e)) (ty : TypeId) :
    ∃ w', (Builtin.clear_ #[t] ty #[.map (some b)]).run P w = .ok (.tuple #[]) w' ∧ w'.ownsMap P k R b 0 (.map []) ∧ w.mapTurned w' b := by
  obtain ⟨es, cl, hb, F, _, _⟩ := h
  refine ⟨setBlock w b (.map #[] cl), ?_, ⟨#[], cl, heap_setBlock_same hb _, ⟨by simp, stamped_empty cl, by simp⟩, Nat.le_refl _, rfl⟩, ⟨es, cl, #[], cl, hb, rfl⟩⟩
  simp [Builtin.clear_, run_underlying ht, Go.MapKept.run_getObj_map hb, Go.MapKept.run_setObj_map _ hb, Result.andThen]
  rfl

/-! ### Sectors, changes -/
abbrev Sec := { xs : List UInt8 // xs.length = 256 }
def Sec.cs (s : Sec) : List Value := cells s.1
def Sec.val (s : Sec) : Value := .agg s.cs.toArray
theorem Sec.cs_length (s : Sec) : s.cs.length = 256 := by rw [Sec.cs, cells_length, s.2]
theorem Sec.one (s : Sec) : ∀ u ∈ s.cs, u.oneCell' = true := cells_one _
def zeroSec : Sec := ⟨List.replicate 256 0, List.length_replicate ..⟩
def fillSec (b : UInt8) : Sec := ⟨List.replicate 256 b, List.length_replicate ..⟩
abbrev Chg := Nat × Sec
def Chg.cs (c : Chg) : List Value := .int .i64 (c.1 : Int) :: c.2.cs
theorem Chg.cs_length (c : Chg) : c.cs.length = 257 := by rw [Chg.cs, List.length_cons, Sec.cs_length]
theorem Chg.one (c : Chg) : ∀ u ∈ c.cs, u.oneCell' = true := by
  intro u hu
  rcases List.mem_cons.1 hu with rfl | h
  · rfl
  · exact Sec.one _ u h
def secs (l : List Sec) : List Value := l.flatMap Sec.cs
def chgs (l : List Chg) : List Value := l.flatMap Chg.cs
theorem secs_length (l : List Sec) : (secs l).length = l.length * 256 := flat_length Sec.cs_length l
theorem chgs_length (l : List Chg) : (chgs l).length = l.length * 257 := flat_length Chg.cs_length l
theorem secs_one (l : List Sec) : ∀ u ∈ secs l, u.oneCell' = true := by
  intro u hu
  obtain ⟨s, _, h⟩ := List.mem_flatMap.1 hu
  exact Sec.one s u h
theorem chgs_one (l : List Chg) : ∀ u ∈ chgs l, u.oneCell' = true := by
  intro u hu
  obtain ⟨s, _, h⟩ := List.mem_flatMap.1 hu
  exact Chg.one s u h
theorem secs_append (l m : List Sec) : secs (l ++ m) = secs l ++ secs m := List.flatMap_append
theorem chgs_append (l m : List Chg) : chgs (l ++ m) = chgs l ++ chgs m := List.flatMap_append
theorem chgs_snoc (l : List Chg) (c : Chg) : chgs (l ++ [c]) = chgs l ++ c.cs := by rw [chgs_append]; simp [chgs]
theorem secs_snoc (l : List Sec) (c : Sec) : secs (l ++ [c]) = secs l ++ c.cs := by rw [secs_append]; simp [secs]
theorem secs_put {l : List Sec} {i : Nat} (hi : i < l.length) (s : Sec) : putL (secs l) (i * 256) s.cs = secs (l.set i s) := flat_put Sec.cs_length hi s

section
variable {w : World} {base : Nat} {e : TypeId} {n cap g : Nat}
theorem sec_range {l : List Sec} (h : w.ownsRow base e 256 (.slice (some ⟨g, 0, none⟩) n cap) n (secs l)) {i : Nat} {s : Sec} (hi : l[i]? = some s) : w.rangeAt g (i * 256) s.cs :=
  own_range h _ _ fun j u hj => by
    have hlt := (List.getElem?_eq_some_iff.1 hj).1
    rw [Sec.cs_length] at hlt
    rw [secs, flat_get Sec.cs_length hi j hlt]
    exact hj
theorem chg_range {l : List Chg} (h : w.ownsRow base e 257 (.slice (some ⟨g, 0, none⟩) n cap) n (chgs l)) {i : Nat} {c : Chg} (hi : l[i]? = some c) : w.rangeAt g (i * 257) c.cs :=
  own_range h _ _ fun j u hj => by
    have hlt := (List.getElem?_eq_some_iff.1 hj).1
    rw [Chg.cs_length] at hlt
    rw [chgs, flat_get Chg.cs_length hi j hlt]
    exact hj
theorem chg_at {l : List Chg} (h : w.ownsRow base e 257 (.slice (some ⟨g, 0, none⟩) n cap) n (chgs l)) {i : Nat} {c : Chg} (hi : l[i]? = some c) : w.cell? ⟨g, i * 257, none⟩ = some (.int .i64 (c.1 : Int)) := by
  have := chg_range h hi 0 _ rfl
  simpa using this
theorem chg_sec {l : List Chg} (h : w.ownsRow base e 257 (.slice (some ⟨g, 0, none⟩) n cap) n (chgs l)) {i : Nat} {c : Chg} (hi : l[i]? = some c) : w.rangeAt g (i * 257 + 1) c.2.cs := by
  intro j u hj
  have := chg_range h hi (j + 1) u (by simpa [Chg.cs] using hj)
  rw [Nat.add_assoc, Nat.add_comm 1 j]
  exact this
end

/-! ### A change built, and laid into a row of its own -/
theorem fold_putL (o : Nat) : ∀ (vs : List Value) (k : Nat) (cs : Array Value), (vs.zipIdx k).foldl (fun cs (x : Value × Nat) => cs.setIfInBounds (o + x.2) x.1) cs = (putL cs.toList (o + k) vs).toArray
  | [], k, cs => by simp [putL]
  | v :: vs, k, cs => by
    rw [List.zipIdx_cons, List.foldl_cons, fold_putL o vs (k + 1), putL]
    simp [Nat.add_assoc]
theorem fill_part (place : Nat → Option (Nat × Nat)) (cs : List Value) (i : Nat) (v : Value) (vs : List Value) (rest : List (Nat × Value)) (off size : Nat) (hp : place i = some (off, size)) (hv : v.cells = vs.toArray) (h1 : vs.length = size) (h2 : off + size ≤ cs.length) :
    Instr.fill place cs.toArray ((i, v) :: rest) = Instr.fill place (putL cs off vs).toArray rest := by
  rw [Instr.fill]
  have e : ¬ ((v.cells.size ≠ size || off + v.cells.size > cs.toArray.size) = true) := by
    rw [hv]
    simp
    omega
  simp only [hp, if_neg e]
  congr 1
  rw [hv, ← Array.foldl_toList, Array.toList_zipIdx]
  exact fold_putL off vs 0 _
theorem built_chg {P : Program} {t : TypeId} {fields : Array Field} (hz : (P.info? t).bind (·.zero) = some (.agg (Value.int .i64 0 :: zeroSec.cs).toArray)) (hu : P.underlying t = some (.struct fields))
    (hp : fields.toList.mapM (fun f => (P.info? f.type).map fun i => (f.offset, i.size)) = some [(0, 1), (1, 256)]) (x : Int) (s : Sec) :
    P.built t [(0, .int .i64 x), (1, .agg s.cs.toArray)] = some (Value.int .i64 x :: s.cs).toArray := by
  obtain ⟨it, hi, hz'⟩ := Option.bind_eq_some_iff.1 hz
  unfold Program.built
  simp only [hi, hu, hz', hp]
  have e : (Value.agg (Value.int .i64 0 :: zeroSec.cs).toArray).cells = (Value.int .i64 0 :: zeroSec.cs).toArray := rfl
  rw [e, fill_part _ _ 0 (.int .i64 x) [.int .i64 x] _ 0 1 rfl rfl rfl (by simp [Sec.cs_length]), fill_part _ _ 1 (.agg s.cs.toArray) s.cs _ 1 256 rfl rfl (Sec.cs_length s) (by rw [putL_length]; simp [Sec.cs_length])]
  have h := putL_mid s.cs [.int .i64 x] zeroSec.cs [] (by rw [Sec.cs_length, Sec.cs_length])
  simp only [List.append_nil, List.length_cons, List.length_nil, List.singleton_append] at h
  show some (putL (.int .i64 x :: zeroSec.cs) 1 s.cs).toArray = _
  rw [h]
/-- One operation of a still region, by what it answers. -/
theorem wpStill_exec {P : Program} {ops : Array Oper} {w : World} {Q : Act → Prop} {a : Act} {o : Oper} {rest : List Oper} (v : Value) (hw : Region.wanted o (yielded ops a.tmps) = true) (he : (execOp a.eval o).run P w = .ok (.value v) w)
    (h : wpStill P ops w Q rest (a.put o.dst v)) : wpStill P ops w Q (o :: rest) a := by
  refine wpStill_step (fun K hK => ?_)
  rw [if_pos hw]
  unfold Oper.still
  rw [he]
  exact ⟨rfl, hK _ h⟩
theorem exec_built {P : Program} {W : World} {ρ : Operand → Value} {o : Oper} (t : TypeId) (parts : Array (Nat × Operand)) (ho : o.op = .build t parts) (cs : List Value)
    (hf : P.built t (parts.toList.map fun p => (p.1, ρ p.2)) = some cs.toArray) : (execOp ρ o).run P W = .ok (.value (.agg cs.toArray)) W := by
  have hf : P.built t (parts.map fun (i, x) => (i, ρ x)).toList = some cs.toArray := by rw [Array.toList_map]; exact hf
  unfold execOp
  simp only [ho, Sem.run_bind, run_build W t _ _ hf, Result.andThen_ok, Sem.run_pure]
/-- 'append(s, x)' of one element lays it into a row of its own first. -/
theorem wp_buildSlice_one {P : Program} {o : Oper} {a : Act} {w : World} {K : Act → World → Prop} {Q : Exit → Act → World → Prop} (t e : TypeId) (x : Operand) (ho : o.op = .buildSlice t 1 #[(0, x)]) (cs : List Value) (hx : a.eval x = .agg cs.toArray)
    (hu : P.underlying t = some (.slice e)) {z : Value} {size bytes : Nat} (hi : (P.info? e).map (fun i => (i.zero, i.size, i.bytes)) = some (some z, size, bytes)) (hl : cs.length = size) (h0 : 0 < size) (h1 : size ≤ 16777216)
    (h : K (a.put o.dst (.slice (some ⟨w.heap.size, 0, none⟩) 1 1)) (w.alloc (.cells cs.toArray e))) : o.wp P a w K Q := by
  obtain ⟨i, hie, hz, hs, hb⟩ := info_parts hi
  refine wp_buildSlice t e 1 _ ho cs.toArray i z hu hie hz (by rw [hs]; omega) (by rw [hs]; omega) ?_ h
  rw [hs, Nat.one_mul]
  simp only [List.map_toArray, List.map_cons, List.map_nil, hx]
  have hlen : (((Array.range size).map (z.cells[· % z.cells.size]!)).toList).length = size := by simp
  have e2 := fill_part (fun i => some (i * size, size)) ((Array.range size).map (z.cells[· % z.cells.size]!)).toList 0 (.agg cs.toArray) cs [] 0 size (by simp) rfl hl (by rw [hlen]; omega)
  rw [Array.toArray_toList] at e2
  rw [e2]
  have h3 := putL_mid cs [] ((Array.range size).map (z.cells[· % z.cells.size]!)).toList [] (by rw [hlen, hl])
  simp only [List.append_nil, List.nil_append, List.length_nil] at h3
  rw [Instr.fill, h3]

theorem eql_slice_nil {P : Program} (w : World) {t e : TypeId} (a : Option Addr) (n c : Nat) (h : P.underlying t = some (.slice e)) : (binOp .eql t (.slice a n c) (.slice none 0 0)).run P w = .ok (.bool a.isNone) w := by
  have e1 : ∀ d, (Op.equalIn (d + 1) t (.slice a n c) (.slice none 0 0)).run P w = .ok a.isNone w := by intro d; cases a <;> simp [Op.equalIn, run_underlying h]
  simp only [binOp]
  simp [show Op.equal t (.slice a n c) (.slice none 0 0) = Op.equalIn (9999 + 1) t (.slice a n c) (.slice none 0 0) from rfl, e1 9999]
theorem eql_map_nil {P : Program} (w : World) {t k e : TypeId} (a : Option Nat) (h : P.underlying t = some (.map k e)) : (binOp .eql t (.map a) (.map none)).run P w = .ok (.bool a.isNone) w := by
  have e1 : ∀ d, (Op.equalIn (d + 1) t (.map a) (.map none)).run P w = .ok a.isNone w := by intro d; cases a <;> simp [Op.equalIn, run_underlying h]
  simp only [binOp]
  simp [show Op.equal t (.map a) (.map none) = Op.equalIn (9999 + 1) t (.map a) (.map none) from rfl, e1 9999]
theorem ite_yes {c : Bool} {A B : Prop} (hc : c = true) (h : A) : if c = true then A else B := by rw [if_pos hc]; exact h
/-- append, at an operation, with where the new row lies. -/
theorem wp_append_at {P : Program} {o : Oper} {a : Act} {w : World} {K : Act → World → Prop} {Q : Exit → Act → World → Prop} (s x : Operand) (t : TypeId) (ho : o.op = .call { callee := .builtin .append, args := #[s, x], argTypes := #[t, t] })
    (base : Nat) (e : TypeId) {z : Value} {size bytes : Nat} (ht : P.underlying t = some (.slice e)) (hi : (P.info? e).map (fun i => (i.zero, i.size, i.bytes)) = some (some z, size, bytes)) (hzs : z.cells.size = size) (hsz : 0 < size)
    (v : Value) (n : Nat) (xs : List Value) (hs : a.eval s = v) (hown : w.ownsRow base e size v n xs)
    (ad : Addr) (m c : Nat) (news : List Value) (hx : a.eval x = .slice (some ad) m c) (hl : news.length = m * size) (hnews : ∀ j u, news[j]? = some u → w.cell? (ad.add j) = some u) (h1 : ∀ u ∈ news, u.oneCell' = true)
    (h63 : n + m ≤ maxLen) (hbytes : (n + m) * bytes ≤ 140737488355328) (hbase : base ≤ w.heap.size)
    (h : ∀ v' w', w'.ownsRow base e size v' (n + m) (xs ++ news) → w.grownBy w' v.ownBlock → (v'.ownBlock = v.ownBlock ∨ v'.ownBlock = some w.heap.size) → K (a.put o.dst v') w') : o.wp P a w K Q := by
  obtain ⟨i, hie, hz, hs1, hb1⟩ := info_parts hi
  obtain ⟨v', w', hr, h2, h3, h4, h5⟩ := run_append_own_at (P := P) w base t o.type e i z size bytes ht hie hz hs1 hb1 hzs hsz v n xs hown ad m c news hl hnews h1 h63 hbytes hbase
  unfold Oper.wp execOp
  simp only [ho, resolve, invoke, builtin, Sem.run_bind, Sem.run_pure, Result.andThen_ok, List.map_toArray, List.map_cons, List.map_nil, hs, hx, hr]
  exact h v' w' h2 h3 h5
/-- What has just been laid into a block of its own. -/
theorem news_new (w : World) (cs : List Value) (t : TypeId) : ∀ j u, cs[j]? = some u → (w.alloc (.cells cs.toArray t)).cell? ((⟨w.heap.size, 0, none⟩ : Addr).add j) = some u := by
  intro j u hj
  rw [Addr.add_lit, Nat.zero_add]
  exact (RowV.new w t cs).cell hj

/-! ### The disk as it is told -/
structure Dk where
  dur : List Sec
  wait : List Chg
  steps : Nat
  fuse : Option Nat
  down : Bool

namespace Dk
def new (n : Nat) : Dk := ⟨List.replicate n zeroSec, [], 0, none, false⟩
/-- The power is gone, or goes at the next write or flush. -/
def dead (d : Dk) : Bool := d.down || d.fuse == some 0
def stepped (d : Dk) : Dk := if d.dead then { d with down := true } else { d with fuse := d.fuse.map (· - 1), steps := d.steps + 1 }
def settle (l : List Sec) (ws : List Chg) : List Sec := ws.foldl (fun l c => l.set c.1 c.2) l
def look (l : List Sec) (ws : List Chg) (at_ : Nat) : Sec := ws.foldl (fun s c => if c.1 = at_ then c.2 else s) (l.getD at_ zeroSec)
def has (d : Dk) (x : Int) : Bool := decide (0 ≤ x) && decide (x < d.dur.length)
def read (d : Dk) (x : Int) : Sec × Int := if d.has x then if d.down then (zeroSec, 4) else (look d.dur d.wait x.toNat, 0) else (zeroSec, 2)
def write (d : Dk) (x : Int) (s : Sec) : Dk × Int := if d.has x then if d.dead then (d.stepped, 4) else ({ d.stepped with wait := d.wait ++ [(x.toNat, s)] }, 0) else (d, 2)
def flush (d : Dk) : Dk × Int := if d.dead then (d.stepped, 4) else ({ d.stepped with dur := settle d.dur d.wait, wait := [] }, 0)
def setFuse (d : Dk) (x : Int) : Dk := { d with fuse := if x < 0 then none else some x.toNat }
/-- Which of the writes are kept. -/
def kept (keep : List Bool) (ws : List Chg) : List Chg := (ws.zip keep).filterMap fun p => if p.2 then some p.1 else none
def crash (d : Dk) (keep : List Bool) : Dk × Int := ({ d with dur := settle d.dur (kept keep d.wait), wait := [], fuse := none, down := false }, ((kept keep d.wait).length : Int))
/-- What the words lean on: each waiting write has its sector; the numbers are far from the end of theirs. -/
structure Ok (d : Dk) : Prop where
  at_ : ∀ c ∈ d.wait, c.1 < d.dur.length
  pos : 0 < d.dur.length
  dur : d.dur.length ≤ 4096
  wait : d.wait.length ≤ 1000000
  steps : d.steps ≤ 1000000
  fuse : ∀ n, d.fuse = some n → n ≤ 9223372036854775807
end Dk

theorem settle_length (ws : List Chg) : ∀ l : List Sec, (Dk.settle l ws).length = l.length := by
  induction ws with
  | nil => intro l; rfl
  | cons c ws ih => intro l; show (Dk.settle (l.set c.1 c.2) ws).length = _; rw [ih]; simp
theorem settle_snoc (l : List Sec) (ws : List Chg) (c : Chg) : Dk.settle l (ws ++ [c]) = (Dk.settle l ws).set c.1 c.2 := by simp [Dk.settle, List.foldl_append]
theorem look_snoc (l : List Sec) (ws : List Chg) (c : Chg) (i : Nat) : Dk.look l (ws ++ [c]) i = if c.1 = i then c.2 else Dk.look l ws i := by simp [Dk.look, List.foldl_append]
theorem look_settle (l : List Sec) (ws : List Chg) (h : ∀ c ∈ ws, c.1 < l.length) (i : Nat) : Dk.look l ws i = (Dk.settle l ws).getD i zeroSec := by
  induction ws using snocInd with
  | nil => rfl
  | append_singleton ws c ih =>
    have hc := h c (by simp)
    rw [look_snoc, settle_snoc, ih (fun c hc => h c (by simp [hc]))]
    rw [List.getD_eq_getElem?_getD, List.getD_eq_getElem?_getD, List.getElem?_set]
    by_cases e : c.1 = i
    · subst e
      rw [if_pos rfl, if_pos rfl, if_pos (by rw [settle_length]; exact hc)]
      rfl
    · rw [if_neg e, if_neg e]

/-! ### The map of the last writes -/
def lastD (ws : List Chg) : DataW Unit :=
  (ws.foldl (fun (p : DataW Unit × Nat) c => (p.1.put (.int .i64 (c.1 : Int)) (.lit (.int .i64 (p.2 : Int))), p.2 + 1)) (.map [], 0)).1
theorem lastD_num (ws : List Chg) : (ws.foldl (fun (p : DataW Unit × Nat) c => (p.1.put (.int .i64 (c.1 : Int)) (.lit (.int .i64 (p.2 : Int))), p.2 + 1)) (.map [], 0)).2 = ws.length := by
  induction ws using snocInd with
  | nil => rfl
  | append_singleton ws c ih => rw [List.foldl_append, List.length_append]; simp only [List.foldl_cons, List.foldl_nil, ih, List.length_cons, List.length_nil]
theorem lastD_snoc (ws : List Chg) (c : Chg) : lastD (ws ++ [c]) = (lastD ws).put (.int .i64 (c.1 : Int)) (.lit (.int .i64 (ws.length : Int))) := by
  unfold lastD
  rw [List.foldl_append]
  simp only [List.foldl_cons, List.foldl_nil]
  rw [lastD_num]
theorem lastD_isMap (ws : List Chg) : IsMap (lastD ws) := by
  induction ws using snocInd with
  | nil => exact ⟨[], rfl⟩
  | append_singleton ws c ih => rw [lastD_snoc]; exact ih.put _ _
theorem keyLit_i64 {n : Int} : WideAt.IsKeyLit (.int .i64 n) := by simp [WideAt.IsKeyLit]
/-- What the map tells: the place of the last write to a sector, which is what a search would find. -/
theorem lastD_tells (l : List Sec) (ws : List Chg) (i : Nat) :
    (Maps.has (lastD ws) (.int .i64 (i : Int)) = true ∧ ∃ (j : Nat) (c : Chg), ws[j]? = some c ∧ (∀ z, (lastD ws).atKey (.int .i64 (i : Int)) z = .lit (.int .i64 (j : Int))) ∧ c.2 = Dk.look l ws i) ∨
    (Maps.has (lastD ws) (.int .i64 (i : Int)) = false ∧ Dk.look l ws i = l.getD i zeroSec) := by
  induction ws using snocInd with
  | nil => exact .inr ⟨rfl, rfl⟩
  | append_singleton ws c ih =>
    rw [lastD_snoc, look_snoc]
    by_cases e : c.1 = i
    · subst e
      refine .inl ⟨has_put_same (lastD_isMap ws) keyLit_i64 _, ws.length, c, by simp, fun z => atKey_put_same (lastD_isMap ws) keyLit_i64 _ _, by rw [if_pos rfl]⟩
    · have hne : (Lit.int .i64 (i : Int)) ≠ .int .i64 (c.1 : Int) := by
        intro h
        injection h with _ h
        exact e (by omega)
      rw [has_put_other hne, if_neg e]
      rcases ih with ⟨h1, j, c', h2, h3, h4⟩ | ⟨h1, h2⟩
      · exact .inl ⟨h1, j, c', by rw [List.getElem?_append_left (List.getElem?_eq_some_iff.1 h2).1]; exact h2, fun z => by rw [atKey_put_other hne]; exact h3 z, h4⟩
      · exact .inr ⟨h1, h2⟩
theorem stepped_wait (d : Dk) : d.stepped.wait = d.wait := by unfold Dk.stepped; split <;> rfl
theorem stepped_dur (d : Dk) : d.stepped.dur = d.dur := by unfold Dk.stepped; split <;> rfl
end Go.Proofs.Ytiglffkbaddefaa
namespace Go.Proofs.Ytiglffkbaddefaa
open Go.RowKit
set_option linter.unusedVariables false

/-! ### The order of bytes -/
theorem less_irr : ∀ a : List UInt8, Op.bytesLess a a = false
  | [] => rfl
  | a :: x => by simp [Op.bytesLess, less_irr x]
theorem less_tri : ∀ a b : List UInt8, a ≠ b → Op.bytesLess a b = true ∨ Op.bytesLess b a = true
  | [], [], h => absurd rfl h
  | [], _ :: _, _ => .inl rfl
  | _ :: _, [], _ => .inr rfl
  | a :: x, b :: y, h => by
    simp only [Op.bytesLess, Bool.or_eq_true, Bool.and_eq_true, decide_eq_true_eq, beq_iff_eq]
    by_cases hab : a = b
    · subst hab
      have hxy : x ≠ y := fun e => h (by rw [e])
      rcases less_tri x y hxy with h1 | h1
      · exact .inl (.inr ⟨rfl, h1⟩)
      · exact .inr (.inr ⟨rfl, h1⟩)
    · have hne : a.toNat ≠ b.toNat := fun e => hab (UInt8.toNat_inj.1 e)
      rcases Nat.lt_or_gt_of_ne hne with h1 | h1
      · exact .inl (.inl (UInt8.lt_iff_toNat_lt.2 h1))
      · exact .inr (.inl (UInt8.lt_iff_toNat_lt.2 h1))
theorem less_trans : ∀ a b c : List UInt8, Op.bytesLess a b = true → Op.bytesLess b c = true → Op.bytesLess a c = true
  | _, [], _, h, _ => by simp [Op.bytesLess] at h
  | _, _ :: _, [], _, h => by simp [Op.bytesLess] at h
  | [], _ :: _, _ :: _, _, _ => rfl
  | a :: x, b :: y, c :: z, h, k => by
    simp only [Op.bytesLess, Bool.or_eq_true, Bool.and_eq_true, decide_eq_true_eq, beq_iff_eq, UInt8.lt_iff_toNat_lt] at h k ⊢
    rcases h with h | ⟨rfl, h⟩ <;> rcases k with k | ⟨rfl, k⟩
    · exact .inl (by omega)
    · exact .inl h
    · exact .inl k
    · exact .inr ⟨rfl, less_trans x y z h k⟩
theorem less_asym (a b : List UInt8) (h : Op.bytesLess a b = true) : ¬ Op.bytesLess b a = true := fun k => by
  have := less_trans a b a h k
  rw [less_irr] at this
  cases this

/-! ### Entries -/
abbrev Adr := { xs : List UInt8 // xs.length = 32 }
def zeroAdr : Adr := ⟨List.replicate 32 0, List.length_replicate ..⟩
structure Ent where
  adr : Adr
  slot : Int
  count : Int
deriving DecidableEq
def Ent.cs (e : Ent) : List Value := cells e.adr.1 ++ [.int .i64 e.slot, .int .i64 e.count]
def Ent.val (e : Ent) : Value := .agg e.cs.toArray
def zeroEnt : Ent := ⟨zeroAdr, 0, 0⟩
theorem Ent.cs_length (e : Ent) : e.cs.length = 34 := by simp [Ent.cs, cells_length, e.adr.2]
theorem Ent.one (e : Ent) : ∀ u ∈ e.cs, u.oneCell' = true := by
  intro u hu
  rcases List.mem_append.1 hu with h | h
  · exact cells_one _ u h
  · rcases List.mem_cons.1 h with rfl | h
    · rfl
    · rcases List.mem_cons.1 h with rfl | h
      · rfl
      · cases h
theorem Ent.get_slot (e : Ent) : e.cs[32]? = some (.int .i64 e.slot) := by
  rw [Ent.cs, List.getElem?_append_right (by rw [cells_length, e.adr.2]; omega), cells_length, e.adr.2]; rfl
theorem Ent.get_count (e : Ent) : e.cs[33]? = some (.int .i64 e.count) := by
  rw [Ent.cs, List.getElem?_append_right (by rw [cells_length, e.adr.2]; omega), cells_length, e.adr.2]; rfl
theorem Ent.get_adr (e : Ent) (j : Nat) (hj : j < 32) : e.cs[j]? = (cells e.adr.1)[j]? := by
  rw [Ent.cs, List.getElem?_append_left (by rw [cells_length, e.adr.2]; exact hj)]
def ents (l : List Ent) : List Value := l.flatMap Ent.cs
theorem ents_length (l : List Ent) : (ents l).length = l.length * 34 := flat_length Ent.cs_length l
theorem ents_one (l : List Ent) : ∀ u ∈ ents l, u.oneCell' = true := by
  intro u hu
  obtain ⟨s, _, h⟩ := List.mem_flatMap.1 hu
  exact Ent.one s u h
theorem ents_append (l m : List Ent) : ents (l ++ m) = ents l ++ ents m := List.flatMap_append
theorem ents_snoc (l : List Ent) (c : Ent) : ents (l ++ [c]) = ents l ++ c.cs := by rw [ents_append]; simp [ents]
theorem ents_put {l : List Ent} {i : Nat} (hi : i < l.length) (s : Ent) : putL (ents l) (i * 34) s.cs = ents (l.set i s) := flat_put Ent.cs_length hi s

section
variable {w : World} {base : Nat} {e : TypeId} {n cap g : Nat}
theorem ent_range {l : List Ent} (h : w.ownsRow base e 34 (.slice (some ⟨g, 0, none⟩) n cap) n (ents l)) {i : Nat} {c : Ent} (hi : l[i]? = some c) : w.rangeAt g (i * 34) c.cs :=
  own_range h _ _ fun j u hj => by
    have hlt := (List.getElem?_eq_some_iff.1 hj).1
    rw [Ent.cs_length] at hlt
    rw [ents, flat_get Ent.cs_length hi j hlt]
    exact hj
theorem ent_adr {l : List Ent} (h : w.ownsRow base e 34 (.slice (some ⟨g, 0, none⟩) n cap) n (ents l)) {i : Nat} {c : Ent} (hi : l[i]? = some c) : w.rangeAt g (i * 34) (cells c.adr.1) := by
  intro j u hj
  have hlt := (List.getElem?_eq_some_iff.1 hj).1
  rw [cells_length, c.adr.2] at hlt
  exact ent_range h hi j u (by rw [Ent.get_adr c j hlt]; exact hj)
theorem ent_slot {l : List Ent} (h : w.ownsRow base e 34 (.slice (some ⟨g, 0, none⟩) n cap) n (ents l)) {i : Nat} {c : Ent} (hi : l[i]? = some c) : w.cell? ⟨g, i * 34 + 32, none⟩ = some (.int .i64 c.slot) :=
  ent_range h hi 32 _ c.get_slot
theorem ent_count {l : List Ent} (h : w.ownsRow base e 34 (.slice (some ⟨g, 0, none⟩) n cap) n (ents l)) {i : Nat} {c : Ent} (hi : l[i]? = some c) : w.cell? ⟨g, i * 34 + 33, none⟩ = some (.int .i64 c.count) :=
  ent_range h hi 33 _ c.get_count
end

/-! ### The rule of a table -/
def ruleT (n : Nat) (hn : 0 < n) : Rule Adr where
  n := n
  home a := beN (a.1.take 6) % n
  lt a b := Op.bytesLess a.1 b.1 = true
  home_lt _ := Nat.mod_lt _ hn
  tri a b h := less_tri a.1 b.1 fun e => h (Subtype.ext e)
  asym a b := less_asym a.1 b.1
  trans a b c := less_trans a.1 b.1 c.1
/-- What stands in the places: an entry with no count is none. -/
def layT (l : List Ent) : Lay Ent := fun p => match l[p]? with
  | some e => if e.count = 0 then none else some e
  | none => none
theorem layT_some {l : List Ent} {p : Nat} {e : Ent} (h : layT l p = some e) : l[p]? = some e ∧ e.count ≠ 0 := by
  unfold layT at h
  split at h
  · split at h
    · cases h
    · rename_i h1 h2; cases h; exact ⟨h1, h2⟩
  · cases h
theorem layT_at {l : List Ent} {p : Nat} {e : Ent} (h : l[p]? = some e) : layT l p = if e.count = 0 then none else some e := by simp [layT, h]
theorem layT_set {l : List Ent} {p : Nat} (hp : p < l.length) {e : Ent} (he : e.count ≠ 0) : layT (l.set p e) = putP (layT l) p (some e) := by
  funext q
  by_cases hq : q = p
  · subst hq
    rw [putP_same, layT_at (e := e) (by simp [hp]), if_neg he]
  · rw [putP_other _ _ hq]
    unfold layT
    rw [List.getElem?_set_ne (fun h => hq h.symm)]
theorem layT_clear {l : List Ent} {p : Nat} (hp : p < l.length) {e : Ent} (he : e.count = 0) : layT (l.set p e) = putP (layT l) p none := by
  funext q
  by_cases hq : q = p
  · subst hq
    rw [putP_same, layT_at (e := e) (by simp [hp]), if_pos he]
  · rw [putP_other _ _ hq]
    unfold layT
    rw [List.getElem?_set_ne (fun h => hq h.symm)]
/-- Two rows of places whose empty places are the zero entry are one when their layouts are. -/
theorem layT_inj {l m : List Ent} (hl : l.length = m.length) (zl : ∀ e ∈ l, e.count = 0 → e = zeroEnt) (zm : ∀ e ∈ m, e.count = 0 → e = zeroEnt) (h : ∀ p, p < l.length → layT l p = layT m p) : l = m := by
  apply List.ext_getElem hl
  intro i h1 h2
  have e1 := layT_at (List.getElem?_eq_getElem h1)
  have e2 := layT_at (List.getElem?_eq_getElem h2)
  have := h i h1
  rw [e1, e2] at this
  split at this <;> split at this
  · rename_i a b
    rw [zl _ (List.getElem_mem h1) a, zm _ (List.getElem_mem h2) b]
  · cases this
  · cases this
  · simpa using this
end Go.Proofs.Ytiglffkbaddefaa
namespace Go.Proofs.Ytiglffkbaddefaa
open Go.RowKit
set_option linter.unusedVariables false

/-- How many entries stand in the places. -/
def cntT (l : List Ent) : Nat := l.countP fun e => decide (e.count ≠ 0)
theorem cntT_le (l : List Ent) : cntT l ≤ l.length := List.countP_le_length
theorem cntT_set {l : List Ent} {p : Nat} {d : Ent} (h : l[p]? = some d) (e : Ent) : cntT (l.set p e) + (if d.count = 0 then 0 else 1) = cntT l + (if e.count = 0 then 0 else 1) := by
  obtain ⟨hp, rfl⟩ := List.getElem?_eq_some_iff.1 h
  unfold cntT
  have h1 : ∀ x : Ent, (decide (x.count ≠ 0) = true) = ¬ x.count = 0 := by intro x; simp
  rw [List.countP_set hp]
  simp only [h1]
  have hpos : ¬ l[p].count = 0 → 0 < l.countP fun e => decide (e.count ≠ 0) := fun hc => List.countP_pos_iff.2 ⟨_, List.getElem_mem hp, by simpa using hc⟩
  by_cases a : l[p].count = 0 <;> by_cases b : e.count = 0 <;> simp only [a, b, if_true, if_false, not_true, not_false_iff] at hpos ⊢
  · omega
  · omega
  · have := hpos trivial; omega
  · have := hpos trivial; omega
theorem layT_none {l : List Ent} {p : Nat} (hp : p < l.length) (h : layT l p = none) : ∃ d, l[p]? = some d ∧ d.count = 0 := by
  refine ⟨l[p], List.getElem?_eq_getElem hp, ?_⟩
  rw [layT_at (List.getElem?_eq_getElem hp)] at h
  split at h
  · assumption
  · cases h
/-- Fewer entries than places: one is empty. -/
theorem cntT_room {l : List Ent} (h : cntT l < l.length) : ∃ z, z < l.length ∧ layT l z = none := by
  by_cases hex : ∃ e ∈ l, e.count = 0
  · obtain ⟨e, he, hc⟩ := hex
    obtain ⟨i, hi, rfl⟩ := List.mem_iff_getElem.1 he
    exact ⟨i, hi, by rw [layT_at (List.getElem?_eq_getElem hi), if_pos hc]⟩
  · have : cntT l = l.length := List.countP_eq_length.2 fun e he => by simpa using fun hc => hex ⟨e, he, hc⟩
    omega
theorem cntT_full {l : List Ent} {z : Nat} (hz : z < l.length) (h : layT l z = none) : cntT l < l.length := by
  obtain ⟨d, hd, hc⟩ := layT_none hz h
  have := cntT_set hd (⟨zeroAdr, 0, 1⟩ : Ent)
  have h2 := cntT_le (l.set z (⟨zeroAdr, 0, 1⟩ : Ent))
  rw [List.length_set] at h2
  simp [hc] at this
  omega

/-- A table. -/
structure Tb (n : Nat) (hn : 0 < n) (l : List Ent) : Prop where
  len : l.length = n
  zero : ∀ e ∈ l, e.count = 0 → e = zeroEnt
  fine : Fine (ruleT n hn) Ent.adr (layT l)
  room : cntT l < n
theorem Tb.new (n : Nat) (hn : 0 < n) : Tb n hn (List.replicate n zeroEnt) := by
  refine ⟨List.length_replicate .., fun e he _ => List.eq_of_mem_replicate he, ?_, ?_⟩
  · have hl : ∀ p, layT (List.replicate n zeroEnt) p = none := by
      intro p
      unfold layT
      split
      · rename_i e he
        have := List.eq_of_mem_replicate (List.mem_of_getElem? he)
        rw [this]
        rfl
      · rfl
    exact ⟨fun p e _ h => by (rw [hl] at h; cases h), fun p q e f _ _ h _ _ => by (rw [hl] at h; cases h)⟩
  · have : cntT (List.replicate n zeroEnt) = 0 := by simp [cntT, List.countP_replicate, zeroEnt]
    omega
theorem has_mem {n : Nat} {hn : 0 < n} {l : List Ent} (hl : l.length = n) (e : Ent) : Has (ruleT n hn) (layT l) e ↔ e ∈ l ∧ e.count ≠ 0 := by
  constructor
  · rintro ⟨p, hp, h⟩
    obtain ⟨h1, h2⟩ := layT_some h
    exact ⟨List.mem_of_getElem? h1, h2⟩
  · rintro ⟨h, hc⟩
    obtain ⟨i, hi, rfl⟩ := List.mem_iff_getElem.1 h
    exact ⟨i, show i < n by omega, by rw [layT_at (List.getElem?_eq_getElem hi), if_neg hc]⟩
/-- One set of entries, one table. -/
theorem Tb.one {n : Nat} {hn : 0 < n} {l m : List Ent} (hl : Tb n hn l) (hm : Tb n hn m) (h : ∀ e : Ent, e.count ≠ 0 → (e ∈ l ↔ e ∈ m)) : l = m := by
  obtain ⟨y, hy, hyl⟩ := cntT_room (by rw [hl.len]; exact hl.room)
  obtain ⟨z, hz, hzm⟩ := cntT_room (by rw [hm.len]; exact hm.room)
  rw [hl.len] at hy
  rw [hm.len] at hz
  refine layT_inj (hl.len.trans hm.len.symm) hl.zero hm.zero fun p hp => ?_
  rw [hl.len] at hp
  refine fine_one (R := ruleT n hn) (key := Ent.adr) hl.fine hm.fine (fun e => ?_) hy hyl hz hzm p hp
  rw [has_mem hl.len, has_mem hm.len]
  constructor
  · rintro ⟨a, b⟩; exact ⟨(h e b).1 a, b⟩
  · rintro ⟨a, b⟩; exact ⟨(h e b).2 a, b⟩
/-- Two entries of one address are one entry. -/
theorem Tb.same {n : Nat} {hn : 0 < n} {l : List Ent} (hl : Tb n hn l) {i j : Nat} {e f : Ent} (he : l[i]? = some e) (hf : l[j]? = some f) (ce : e.count ≠ 0) (cf : f.count ≠ 0) (h : e.adr = f.adr) : i = j := by
  have hi := (List.getElem?_eq_some_iff.1 he).1
  have hj := (List.getElem?_eq_some_iff.1 hf).1
  rw [hl.len] at hi hj
  exact hl.fine.one i j e f hi hj (by rw [layT_at he, if_neg ce]) (by rw [layT_at hf, if_neg cf]) h
/-- An entry of another slot and count under the same address, in its place. -/
theorem Tb.replace {n : Nat} {hn : 0 < n} {l : List Ent} (hl : Tb n hn l) {i : Nat} {e f : Ent} (he : l[i]? = some e) (ce : e.count ≠ 0) (cf : f.count ≠ 0) (h : f.adr = e.adr) :
    Tb n hn (l.set i f) ∧ cntT (l.set i f) = cntT l ∧ ∀ x : Ent, x.count ≠ 0 → (x ∈ l.set i f ↔ (x ∈ l ∧ x.adr ≠ f.adr) ∨ x = f) := by
  have hi := (List.getElem?_eq_some_iff.1 he).1
  have hc : cntT (l.set i f) = cntT l := by have := cntT_set he f; simpa [ce, cf] using this
  have hset : ∀ q x, layT (l.set i f) q = some x → (q = i ∧ x = f) ∨ (q ≠ i ∧ layT l q = some x) := by
    intro q x hx
    rw [layT_set hi cf] at hx
    by_cases hq : q = i
    · subst hq
      rw [putP_same] at hx
      cases hx
      exact .inl ⟨rfl, rfl⟩
    · rw [putP_other _ _ hq] at hx
      exact .inr ⟨hq, hx⟩
  have old : layT l i = some e := by rw [layT_at he, if_neg ce]
  refine ⟨⟨by rw [List.length_set, hl.len], ?_, ?_, by rw [hc]; exact hl.room⟩, hc, ?_⟩
  · intro x hx h0
    rcases List.mem_or_eq_of_mem_set hx with h1 | rfl
    · exact hl.zero x h1 h0
    · exact absurd h0 cf
  · have key : ∀ q x, layT (l.set i f) q = some x → ∃ y, layT l q = some y ∧ y.adr = x.adr := by
      intro q x hx
      rcases hset q x hx with ⟨rfl, rfl⟩ | ⟨_, h1⟩
      · exact ⟨e, old, h.symm⟩
      · exact ⟨x, h1, rfl⟩
    have back : ∀ q y, layT l q = some y → ∃ x, layT (l.set i f) q = some x ∧ x.adr = y.adr := by
      intro q y hy
      rw [layT_set hi cf]
      by_cases hq : q = i
      · subst hq
        rw [old] at hy
        cases hy
        exact ⟨f, putP_same _ _ _, h⟩
      · exact ⟨y, by rw [putP_other _ _ hq]; exact hy, rfl⟩
    refine ⟨?_, ?_⟩
    · intro q x hq hx r hr hlt
      obtain ⟨y, hy, hyx⟩ := key q x hx
      obtain ⟨g, hg, hgy, hgo⟩ := (hl.fine.way q y hq hy r hr (by rw [hyx]; exact hlt)).resolve_left (fun h => h)
      obtain ⟨g', hg', hgg⟩ := back r g hg
      exact .inr ⟨g', hg', by rw [hgg, ← hyx]; exact hgy, by rw [hgg, ← hyx]; exact hgo⟩
    · intro q r x y hq hr hx hy hk
      obtain ⟨x', hx', ex⟩ := key q x hx
      obtain ⟨y', hy', ey⟩ := key r y hy
      exact hl.fine.one q r x' y' hq hr hx' hy' (by rw [ex, ey]; exact hk)
  · intro x hx
    constructor
    · intro hm
      obtain ⟨q, hq, rfl⟩ := List.mem_iff_getElem.1 hm
      have hq' : layT (l.set i f) q = some (l.set i f)[q] := by rw [layT_at (List.getElem?_eq_getElem hq), if_neg hx]
      rcases hset q _ hq' with ⟨_, h1⟩ | ⟨h1, h2⟩
      · exact .inr h1
      · refine .inl ⟨List.mem_of_getElem? (layT_some h2).1, fun ha => h1 ?_⟩
        exact hl.same (layT_some h2).1 he hx ce (ha.trans h)
    · rintro (⟨hm, ha⟩ | rfl)
      · obtain ⟨q, hq, rfl⟩ := List.mem_iff_getElem.1 hm
        have hqi : i ≠ q := by
          rintro rfl
          have : l[i] = e := by rw [List.getElem?_eq_getElem hq] at he; exact Option.some.inj he
          exact ha (by rw [this, h])
        refine List.mem_iff_getElem.2 ⟨q, by rw [List.length_set]; exact hq, ?_⟩
        rw [List.getElem_set_ne hqi]
      · exact List.mem_iff_getElem.2 ⟨i, by rw [List.length_set]; exact hi, by rw [List.getElem_set_self]⟩
end Go.Proofs.Ytiglffkbaddefaa
namespace Go.Proofs.Ytiglffkbaddefaa
open Go.RowKit
set_option linter.unusedVariables false

/-- A place as 42 bytes. -/
def entB (e : Ent) : List UInt8 := putB e.count.toNat 6 ++ (putB e.slot.toNat 2 ++ (e.adr.1 ++ [0, 0]))
theorem entB_length (e : Ent) : (entB e).length = 42 := by simp [entB, putB_length, e.adr.2]
/-- What fits into its bytes. -/
def Ent.fits (e : Ent) : Prop := 0 ≤ e.count ∧ e.count < 281474976710656 ∧ 0 ≤ e.slot ∧ e.slot < 65536
/-- The place that stands from a byte on. -/
def entAt (x : List UInt8) (o : Nat) : Ent :=
  ⟨⟨(List.range 32).map fun k => x.getD (o + 8 + k) 0, by simp⟩, ((leN ((x.drop (o + 6)).take 2) : Nat) : Int), ((leN ((x.drop o).take 6) : Nat) : Int)⟩
theorem entAt_fits (x : List UInt8) (o : Nat) : (entAt x o).fits := by
  have h1 := leN_take_lt (x.drop o) 6
  have h2 := leN_take_lt (x.drop (o + 6)) 2
  unfold Ent.fits entAt
  simp only
  omega
theorem entAt_back {e : Ent} (he : e.fits) (a b : List UInt8) : entAt (a ++ (entB e ++ b)) a.length = e := by
  obtain ⟨h1, h2, h3, h4⟩ := he
  have l6 := putB_length e.count.toNat 6
  have l2 := putB_length e.slot.toNat 2
  have hl := e.adr.2
  have d0 : ∀ k (ys : List UInt8), (a ++ ys).drop (a.length + k) = ys.drop k := fun k ys => by rw [List.drop_append]; simp
  have c1 : ((a ++ (entB e ++ b)).drop a.length).take 6 = putB e.count.toNat 6 := by
    have := d0 0 (entB e ++ b)
    rw [Nat.add_zero, List.drop_zero] at this
    rw [this, entB, List.append_assoc, List.take_append_of_le_length (by omega), List.take_of_length_le (by omega)]
  have c2 : ((a ++ (entB e ++ b)).drop (a.length + 6)).take 2 = putB e.slot.toNat 2 := by
    rw [d0, entB, List.append_assoc, List.drop_append_of_le_length (by omega), List.drop_of_length_le (by omega), List.nil_append, List.append_assoc, List.take_append_of_le_length (by omega), List.take_of_length_le (by omega)]
  have c3 : ∀ k, k < 32 → (a ++ (entB e ++ b)).getD (a.length + 8 + k) 0 = e.adr.1.getD k 0 := fun k hk => by
    rw [List.getD_eq_getElem?_getD, List.getD_eq_getElem?_getD, List.getElem?_append_right (by omega), show a.length + 8 + k - a.length = 8 + k by omega, entB]
    simp only [List.append_assoc]
    rw [List.getElem?_append_right (by omega), l6, List.getElem?_append_right (by omega), l2, List.getElem?_append_left (by omega), show 8 + k - 6 - 2 = k by omega]
  obtain ⟨⟨ad, hd⟩, s, c⟩ := e
  unfold entAt
  rw [c1, c2, leN_putB, leN_putB]
  simp only at h1 h2 h3 h4 c3 ⊢
  have hl' : ad.length = 32 := hd
  congr 1
  · apply Subtype.ext
    apply List.ext_getElem?
    intro i
    by_cases hi : i < 32
    · rw [List.getElem?_map, List.getElem?_range hi]
      simp only [Option.map_some]
      rw [c3 i hi, List.getD_eq_getElem?_getD, List.getElem?_eq_getElem (show i < ad.length by omega)]
      rfl
    · rw [List.getElem?_eq_none (by simp; omega), List.getElem?_eq_none (show ad.length ≤ i by omega)]
  · omega
  · omega

theorem bflat_length {α β : Type} {f : α → List β} {k : Nat} (hf : ∀ a, (f a).length = k) (l : List α) : (l.flatMap f).length = l.length * k := by
  induction l with
  | nil => simp
  | cons a l ih => rw [List.flatMap_cons, List.length_append, hf, ih, List.length_cons, Nat.succ_mul]; omega
theorem bflat_split {α β : Type} {f : α → List β} (l : List α) (i : Nat) (a : α) (h : l[i]? = some a) : l.flatMap f = (l.take i).flatMap f ++ (f a ++ (l.drop (i + 1)).flatMap f) := by
  have hi : i < l.length := (List.getElem?_eq_some_iff.1 h).1
  have e : l = l.take i ++ (a :: l.drop (i + 1)) := by
    have h2 : l[i] = a := (List.getElem?_eq_some_iff.1 h).2
    rw [← h2, ← List.drop_eq_getElem_cons hi, List.take_append_drop]
  conv => lhs; rw [e]
  rw [List.flatMap_append, List.flatMap_cons]
/-- Places as bytes. -/
def placesB (l : List Ent) : List UInt8 := l.flatMap entB
theorem placesB_length (l : List Ent) : (placesB l).length = l.length * 42 := bflat_length entB_length l
theorem placesB_at {l : List Ent} {i : Nat} {e : Ent} (h : l[i]? = some e) (he : e.fits) (b : List UInt8) : entAt (placesB l ++ b) (i * 42) = e := by
  have h1 := bflat_split (f := entB) l i e h
  have hi := (List.getElem?_eq_some_iff.1 h).1
  have h2 : ((l.take i).flatMap entB).length = i * 42 := by rw [bflat_length entB_length, List.length_take, Nat.min_eq_left (by omega)]
  unfold placesB
  rw [h1, ← h2, List.append_assoc, List.append_assoc]
  exact entAt_back he _ _
/-- The i-th six of them, sealed. -/
def sixB (l : List Ent) (i : Nat) : List UInt8 := sealB (placesB ((l.drop (6 * i)).take 6))
/-- The six places of a sector's bytes. -/
def unSix (x : List UInt8) : List Ent := (List.range 6).map fun k => entAt x (42 * k)
theorem unSix_length (x : List UInt8) : (unSix x).length = 6 := by simp [unSix]
theorem unSix_seal {l : List Ent} (hl : l.length = 6) (hf : ∀ e ∈ l, e.fits) : unSix (sealB (placesB l)) = l := by
  apply List.ext_getElem
  · rw [unSix_length, hl]
  · intro i h1 h2
    rw [unSix_length] at h1
    simp only [unSix, List.getElem_map, List.getElem_range]
    rw [Nat.mul_comm]
    exact placesB_at (List.getElem?_eq_getElem h2) (hf _ (List.getElem_mem h2)) _
theorem sixB_length {l : List Ent} {i : Nat} (h : 6 * i + 6 ≤ l.length) : (sixB l i).length = 256 := by
  rw [sixB, sealB_length, placesB_length, List.length_take, List.length_drop, Nat.min_eq_left (by omega)]
/-- Places as sectors: m of them. -/
def shelfB (l : List Ent) (m : Nat) : List (List UInt8) := (List.range m).map (sixB l)
/-- Sectors as places. -/
def readP (xs : List (List UInt8)) : List Ent := xs.flatMap unSix
theorem readP_length (xs : List (List UInt8)) : (readP xs).length = xs.length * 6 := by
  unfold readP
  induction xs with
  | nil => rfl
  | cons x xs ih => rw [List.flatMap_cons, List.length_append, unSix_length, ih, List.length_cons]; omega
theorem readP_fits (xs : List (List UInt8)) : ∀ e ∈ readP xs, e.fits := by
  intro e he
  obtain ⟨x, _, h⟩ := List.mem_flatMap.1 he
  obtain ⟨k, _, rfl⟩ := List.mem_map.1 h
  exact entAt_fits _ _
theorem shelfB_succ (l : List Ent) (m : Nat) : shelfB l (m + 1) = shelfB l m ++ [sixB l m] := by simp [shelfB, List.range_succ]
theorem readP_shelf {l : List Ent} (hf : ∀ e ∈ l, e.fits) : ∀ m, 6 * m ≤ l.length → readP (shelfB l m) = l.take (6 * m)
  | 0, _ => by simp [shelfB, readP]
  | m + 1, h => by
    have ih := readP_shelf hf m (by omega)
    rw [shelfB_succ]
    unfold readP at *
    rw [List.flatMap_append, ih, List.flatMap_cons, List.flatMap_nil, List.append_nil, sixB,
      unSix_seal (by rw [List.length_take, List.length_drop, Nat.min_eq_left (by omega)]) (fun e he => hf e (List.mem_of_mem_drop (List.mem_of_mem_take he))),
      show 6 * (m + 1) = 6 * m + 6 by omega, List.take_add]
/-- There and back. -/
theorem readP_all {l : List Ent} {m : Nat} (hl : l.length = 6 * m) (hf : ∀ e ∈ l, e.fits) : readP (shelfB l m) = l := by
  rw [readP_shelf hf m (by omega), List.take_of_length_le (by omega)]
/-- Different places are different sectors. -/
theorem shelfB_inj {l l' : List Ent} {m : Nat} (hl : l.length = 6 * m) (hl' : l'.length = 6 * m) (hf : ∀ e ∈ l, e.fits) (hf' : ∀ e ∈ l', e.fits) (h : shelfB l m = shelfB l' m) : l = l' := by
  rw [← readP_all hl hf, ← readP_all hl' hf', h]
end Go.Proofs.Ytiglffkbaddefaa
namespace Go.Proofs.Ytiglffkbaddefaa
open Go.RowKit
set_option linter.unusedVariables false

section
variable {n : Nat} {hn : 0 < n}
theorem hasH_mem {l : List Ent} (hl : l.length = n) (p : Nat) (e : Ent) : HasH (ruleT n hn) (layT l) p e ↔ (∃ q : Nat, q ≠ p ∧ l[q]? = some e) ∧ e.count ≠ 0 := by
  constructor
  · rintro ⟨q, hq, hqp, h⟩
    obtain ⟨h1, h2⟩ := layT_some h
    exact ⟨⟨q, hqp, h1⟩, h2⟩
  · rintro ⟨⟨q, hqp, h⟩, hc⟩
    have hq := (List.getElem?_eq_some_iff.1 h).1
    exact ⟨q, show q < n by omega, hqp, by rw [layT_at h, if_neg hc]⟩
/-- An entry e on its way stands before place p of the row l: with it the entries are those of S; c of them are laid. -/
structure Ins (n : Nat) (hn : 0 < n) (S : Ent → Prop) (c : Nat) (l : List Ent) (e : Ent) (p : Nat) : Prop where
  len : l.length = n
  zero : ∀ e ∈ l, e.count = 0 → e = zeroEnt
  way : Way (ruleT n hn) Ent.adr (layT l) e p
  at_ : p < n
  real : e.count ≠ 0
  cnt : cntT l = c
  room : c + 1 < n
  mem : ∀ x, (Has (ruleT n hn) (layT l) x ∨ x = e) ↔ S x
theorem Tb.ins {l : List Ent} (h : Tb n hn l) {e : Ent} (he : e.count ≠ 0) (hnew : ∀ f ∈ l, f.count ≠ 0 → f.adr ≠ e.adr) (hroom : cntT l + 1 < n) :
    Ins n hn (fun x => (x ∈ l ∧ x.count ≠ 0) ∨ x = e) (cntT l) l e ((ruleT n hn).home e.adr) :=
  ⟨h.len, h.zero, Way.start h.fine fun q f _ hf => hnew f (List.mem_of_getElem? (layT_some hf).1) (layT_some hf).2, (ruleT n hn).home_lt _, he, rfl, hroom, fun x => by rw [has_mem h.len]⟩
theorem Ins.empty {S : Ent → Prop} {c : Nat} {l : List Ent} {e : Ent} {p : Nat} (h : Ins n hn S c l e p) : ∃ z, z < n ∧ layT l z = none := by
  obtain ⟨z, hz, hzn⟩ := cntT_room (l := l) (by have := h.room; rw [h.cnt, h.len]; omega)
  exact ⟨z, by rw [← h.len]; exact hz, hzn⟩
theorem Ins.get {S : Ent → Prop} {c : Nat} {l : List Ent} {e : Ent} {p : Nat} (h : Ins n hn S c l e p) : ∃ f, l[p]? = some f := ⟨_, List.getElem?_eq_getElem (by rw [h.len]; exact h.at_)⟩
theorem Ins.other {S : Ent → Prop} {c : Nat} {l : List Ent} {e f : Ent} {p : Nat} (h : Ins n hn S c l e p) (hf : l[p]? = some f) (cf : f.count ≠ 0) : f.adr ≠ e.adr :=
  h.way.new p f h.at_ (by rw [layT_at hf, if_neg cf])
theorem Ins.pass {S : Ent → Prop} {c : Nat} {l : List Ent} {e f : Ent} {p : Nat} (h : Ins n hn S c l e p) (hf : l[p]? = some f) (cf : f.count ≠ 0) (hg : ¬ (ruleT n hn).goes e.adr f.adr p) :
    Ins n hn S c l e (nextP n p) ∧ (ruleT n hn).far e.adr (nextP n p) = (ruleT n hn).far e.adr p + 1 := by
  obtain ⟨z, hz, hzn⟩ := h.empty
  have hL : layT l p = some f := by rw [layT_at hf, if_neg cf]
  have hne := Way.room (R := ruleT n hn) h.way h.at_ hL hz hzn
  exact ⟨⟨h.len, h.zero, h.way.pass h.at_ hL hg hne, nextP_lt h.at_, h.real, h.cnt, h.room, h.mem⟩, farF_next ((ruleT n hn).home_lt _) h.at_ hne⟩
theorem Ins.swap {S : Ent → Prop} {c : Nat} {l : List Ent} {e f : Ent} {p : Nat} (h : Ins n hn S c l e p) (hf : l[p]? = some f) (cf : f.count ≠ 0) (hg : (ruleT n hn).goes e.adr f.adr p) :
    Ins n hn S c (l.set p e) f p := by
  have hp : p < l.length := by rw [h.len]; exact h.at_
  have hL : layT l p = some f := by rw [layT_at hf, if_neg cf]
  refine ⟨by rw [List.length_set, h.len], ?_, by rw [layT_set hp h.real]; exact h.way.swap h.at_ hL hg, h.at_, cf, ?_, h.room, ?_⟩
  · intro x hx h0
    rcases List.mem_or_eq_of_mem_set hx with h1 | rfl
    · exact h.zero x h1 h0
    · exact absurd h0 h.real
  · have := cntT_set hf e
    rw [if_neg cf, if_neg h.real, h.cnt] at this
    omega
  · intro x
    rw [layT_set hp h.real, ← h.mem x]
    exact has_swap (R := ruleT n hn) h.at_ hL x
/-- Behind a swap it goes on at once. -/
theorem Ins.swapped {S : Ent → Prop} {c : Nat} {l : List Ent} {e f : Ent} {p : Nat} (h : Ins n hn S c l e p) (hf : l[p]? = some f) (cf : f.count ≠ 0) (hg : (ruleT n hn).goes e.adr f.adr p) :
    Ins n hn S c (l.set p e) f (nextP n p) ∧ (ruleT n hn).far f.adr (nextP n p) = (ruleT n hn).far f.adr p + 1 := by
  have hp : p < l.length := by rw [h.len]; exact h.at_
  exact (h.swap hf cf hg).pass (f := e) (by simp [hp]) h.real (Rule.goes_asym hg)
theorem Ins.rest {S : Ent → Prop} {c : Nat} {l : List Ent} {e f : Ent} {p : Nat} (h : Ins n hn S c l e p) (hf : l[p]? = some f) (cf : f.count = 0) :
    Tb n hn (l.set p e) ∧ cntT (l.set p e) = c + 1 ∧ ∀ x : Ent, (x ∈ l.set p e ∧ x.count ≠ 0) ↔ S x := by
  have hp : p < l.length := by rw [h.len]; exact h.at_
  have hL : layT l p = none := by rw [layT_at hf, if_pos cf]
  have hc : cntT (l.set p e) = c + 1 := by
    have := cntT_set hf e
    rw [if_pos cf, if_neg h.real, h.cnt] at this
    omega
  have hlen : (l.set p e).length = n := by rw [List.length_set, h.len]
  refine ⟨⟨hlen, ?_, by rw [layT_set hp h.real]; exact h.way.rest h.at_ hL, by rw [hc]; exact h.room⟩, hc, ?_⟩
  · intro x hx h0
    rcases List.mem_or_eq_of_mem_set hx with h1 | rfl
    · exact h.zero x h1 h0
    · exact absurd h0 h.real
  · intro x
    rw [← has_mem (hn := hn) hlen, layT_set hp h.real, ← h.mem x]
    exact has_rest (R := ruleT n hn) h.at_ hL x
/-- How many steps are left at most: the way to an empty place. -/
theorem Ins.toward {S : Ent → Prop} {c : Nat} {l : List Ent} {e f : Ent} {p z : Nat} (h : Ins n hn S c l e p) (hf : l[p]? = some f) (cf : f.count ≠ 0) (hz : z < n) (hzn : layT l z = none) :
    farF n (nextP n p) z + 1 = farF n p z :=
  farF_toward h.at_ hz (by rintro rfl; rw [layT_at hf, if_neg cf] at hzn; cases hzn)

/-! ### One less -/
theorem Hole.put {κ E : Type} {R : Rule κ} {key : E → κ} {L : Lay E} {p : Nat} (h : Hole R key L p) (v : Option E) : Hole R key (putP L p v) p := by
  refine ⟨?_, ?_⟩
  · intro q e hq hqp he s hs hlt
    rw [putP_other _ _ hqp] at he
    rcases h.way q e hq hqp he s hs hlt with h1 | ⟨y, hy, r⟩
    · exact .inl h1
    · by_cases hsp : s = p
      · exact .inl hsp
      · exact .inr ⟨y, by rw [putP_other _ _ hsp]; exact hy, r⟩
  · intro q r e f hq hr hqp hrp h1 h2 hk
    rw [putP_other _ _ hqp] at h1
    rw [putP_other _ _ hrp] at h2
    exact h.one q r e f hq hr hqp hrp h1 h2 hk
/-- The row l with a hole at p: the others are those of S, c of them. -/
structure Del (n : Nat) (hn : 0 < n) (S : Ent → Prop) (c : Nat) (l : List Ent) (p : Nat) : Prop where
  len : l.length = n
  zero : ∀ (q : Nat) (e : Ent), q ≠ p → l[q]? = some e → e.count = 0 → e = zeroEnt
  hole : Hole (ruleT n hn) Ent.adr (layT l) p
  at_ : p < n
  cnt : cntT (l.set p zeroEnt) = c
  room : c + 1 < n
  mem : ∀ x, HasH (ruleT n hn) (layT l) p x ↔ S x
theorem Tb.del {l : List Ent} (h : Tb n hn l) {p : Nat} {e : Ent} (he : l[p]? = some e) (ce : e.count ≠ 0) :
    Del n hn (fun x => (x ∈ l ∧ x.count ≠ 0) ∧ x.adr ≠ e.adr) (cntT l - 1) l p ∧ 0 < cntT l := by
  have hp := (List.getElem?_eq_some_iff.1 he).1
  have hc := cntT_set he zeroEnt
  rw [if_neg ce, show zeroEnt.count = 0 from rfl, if_pos rfl] at hc
  have hr := h.room
  refine ⟨⟨h.len, fun q f _ hf h0 => h.zero f (List.mem_of_getElem? hf) h0, h.fine.hole p, by rw [← h.len]; exact hp, by omega, by omega, fun x => ?_⟩, by omega⟩
  rw [hasH_mem h.len]
  constructor
  · rintro ⟨⟨q, hq, hx⟩, hc⟩
    exact ⟨⟨List.mem_of_getElem? hx, hc⟩, fun ha => hq (h.same hx he hc ce ha)⟩
  · rintro ⟨⟨hx, hc⟩, ha⟩
    obtain ⟨q, hq, rfl⟩ := List.mem_iff_getElem.1 hx
    refine ⟨⟨q, ?_, List.getElem?_eq_getElem hq⟩, hc⟩
    rintro rfl
    rw [List.getElem?_eq_getElem hq] at he
    exact ha (by rw [Option.some.inj he])
/-- What stands in the hole counts for nothing. -/
theorem Del.put {S : Ent → Prop} {c : Nat} {l : List Ent} {p : Nat} (h : Del n hn S c l p) (v : Ent) : Del n hn S c (l.set p v) p := by
  have hp : p < l.length := by rw [h.len]; exact h.at_
  have hl : layT (l.set p v) = putP (layT l) p (if v.count = 0 then none else some v) := by
    by_cases hv : v.count = 0
    · rw [layT_clear hp hv, if_pos hv]
    · rw [layT_set hp hv, if_neg hv]
  refine ⟨by rw [List.length_set, h.len], ?_, by rw [hl]; exact h.hole.put _, h.at_, by rw [List.set_set]; exact h.cnt, h.room, ?_⟩
  · intro q e hq he h0
    rw [List.getElem?_set_ne (fun e => hq e.symm)] at he
    exact h.zero q e hq he h0
  · intro x
    rw [← h.mem x, hl]
    constructor
    · rintro ⟨r, hr, hrp, hx⟩; exact ⟨r, hr, hrp, by rw [putP_other _ _ hrp] at hx; exact hx⟩
    · rintro ⟨r, hr, hrp, hx⟩; exact ⟨r, hr, hrp, by rw [putP_other _ _ hrp]; exact hx⟩
theorem Del.get {S : Ent → Prop} {c : Nat} {l : List Ent} {p : Nat} (h : Del n hn S c l p) : ∃ f, l[nextP n p]? = some f := ⟨_, List.getElem?_eq_getElem (by rw [h.len]; exact nextP_lt h.at_)⟩
theorem Del.next_ne {S : Ent → Prop} {c : Nat} {l : List Ent} {p : Nat} (h : Del n hn S c l p) : nextP n p ≠ p := by
  have := h.room
  have := h.at_
  unfold nextP
  split <;> omega
theorem Del.shift {S : Ent → Prop} {c : Nat} {l : List Ent} {f : Ent} {p : Nat} (h : Del n hn S c l p) (hf : l[nextP n p]? = some f) (cf : f.count ≠ 0) (hm : nextP n p ≠ (ruleT n hn).home f.adr) : Del n hn S c (l.set p f) (nextP n p) := by
  have hp : p < l.length := by rw [h.len]; exact h.at_
  have hne := h.next_ne
  have hL : layT l (nextP n p) = some f := by rw [layT_at hf, if_neg cf]
  have hf' : (l.set p f)[nextP n p]? = some f := by rw [List.getElem?_set_ne (fun e => hne e.symm)]; exact hf
  refine ⟨by rw [List.length_set, h.len], ?_, by rw [layT_set hp cf]; exact Hole.shift (R := ruleT n hn) h.hole h.at_ hL hne hm, nextP_lt h.at_, ?_, h.room, ?_⟩
  · intro q e hq he h0
    by_cases hqp : q = p
    · subst hqp
      rw [List.getElem?_set_self hp] at he
      cases he
      exact absurd h0 cf
    · rw [List.getElem?_set_ne (fun e => hqp e.symm)] at he
      exact h.zero q e hqp he h0
  · have a := cntT_set hf' zeroEnt
    have z0 : zeroEnt.count = 0 := rfl
    rw [if_neg cf, if_pos z0] at a
    have b := cntT_set (l := l.set p zeroEnt) (p := p) (d := zeroEnt) (by simp [hp]) f
    rw [List.set_set, if_pos z0, if_neg cf, h.cnt] at b
    omega
  · intro x
    rw [layT_set hp cf, ← h.mem x]
    exact hasH_shift (R := ruleT n hn) h.at_ hL hne x
theorem Del.close {S : Ent → Prop} {c : Nat} {l : List Ent} {f : Ent} {p : Nat} (h : Del n hn S c l p) (hf : l[nextP n p]? = some f) (cf : f.count = 0 ∨ nextP n p = (ruleT n hn).home f.adr) :
    Tb n hn (l.set p zeroEnt) ∧ cntT (l.set p zeroEnt) = c ∧ ∀ x : Ent, (x ∈ l.set p zeroEnt ∧ x.count ≠ 0) ↔ S x := by
  have hp : p < l.length := by rw [h.len]; exact h.at_
  have z0 : zeroEnt.count = 0 := rfl
  have hlen : (l.set p zeroEnt).length = n := by rw [List.length_set, h.len]
  have hr := h.room
  refine ⟨⟨hlen, ?_, ?_, by rw [h.cnt]; omega⟩, h.cnt, ?_⟩
  · intro x hx h0
    obtain ⟨q, hq, rfl⟩ := List.mem_iff_getElem.1 hx
    by_cases hqp : q = p
    · subst hqp
      rw [List.getElem_set_self]
    · have hq' := List.getElem?_eq_getElem hq
      rw [List.getElem?_set_ne (fun e => hqp e.symm)] at hq'
      exact h.zero q _ hqp hq' h0
  · rw [layT_clear hp z0]
    refine Hole.close (R := ruleT n hn) h.hole h.at_ fun g hg _ => ?_
    obtain ⟨h1, h2⟩ := layT_some hg
    have h1' : l[nextP n p]? = some g := h1
    rw [hf] at h1'
    cases h1'
    exact cf.resolve_left h2
  · intro x
    rw [← has_mem (hn := hn) hlen, layT_clear hp z0, ← h.mem x]
    exact has_close (R := ruleT n hn) h.at_ x
end
end Go.Proofs.Ytiglffkbaddefaa
namespace Go.Proofs.Ytiglffkbaddefaa
open Go.RowKit
set_option linter.unusedVariables false

theorem made_list (z : Array Value) (hz : 0 < z.size) (n : Nat) : (madeCells z (n * z.size)).toList = (List.replicate n z.toList).flatten := by
  induction n with
  | zero => simp [madeCells]
  | succ n ih =>
    rw [List.replicate_succ', List.flatten_append, ← ih, Nat.succ_mul]
    apply List.ext_getElem?
    intro j
    rw [List.getElem?_append]
    have hlen : (madeCells z (n * z.size)).toList.length = n * z.size := by simp [size_madeCells]
    rw [hlen]
    split
    · rename_i h
      simp [madeCells, h, show j < n * z.size + z.size by omega]
    · rename_i h
      by_cases hj : j < n * z.size + z.size
      · have hm : j % z.size = j - n * z.size := by
          obtain ⟨k, rfl⟩ : ∃ k, j = n * z.size + k := ⟨j - n * z.size, by omega⟩
          rw [Nat.add_sub_cancel_left, Nat.mul_add_mod', Nat.mod_eq_of_lt (by omega)]
        have hk : j - n * z.size < z.size := by omega
        simp [madeCells, hj, hm, hk]
      · simp [madeCells, hj]
        omega
theorem row_of_full {w : World} {base : Nat} {e : TypeId} {size g n : Nat} {xs : List Value} (h : w.ownsRow base e size (.slice (some ⟨g, 0, none⟩) n n) n xs) : RowV w g e xs := by
  rcases h.2 with ⟨h0, _⟩ | ⟨g', cap, cur, hv, _, hg, _, _, hs, ht⟩
  · cases h0
  · simp only [Value.slice.injEq, Option.some.injEq, Addr.mk.injEq, and_true, true_and] at hv
    obtain ⟨rfl, rfl⟩ := hv
    unfold RowV
    rw [hg, ← ht, List.take_of_length_le (by rw [Array.length_toList, hs]; exact Nat.le_refl _)]
theorem own_of_row {w : World} {e : TypeId} {size g n : Nat} {xs : List Value} (h : RowV w g e xs) (hn : xs.length = n * size) (hm : n ≤ maxLen) : w.ownsRow 0 e size (.slice (some ⟨g, 0, none⟩) n n) n xs :=
  ⟨hn, .inr ⟨g, n, xs.toArray, rfl, Nat.zero_le _, h, Nat.le_refl _, hm, by simpa using hn, by rw [← hn]; simp⟩⟩
/-- Some cells of a row written. -/
theorem row_put {w : World} {e : TypeId} {g : Nat} {xs : List Value} (h : RowV w g e xs) (hm : xs.length ≤ maxLen) (news : List Value) (o : Nat) (ho : o + news.length ≤ xs.length) : RowV (w.setCells g o news) g e (putL xs o news) ∧ w.grownBy (w.setCells g o news) (some g) := by
  have := own_put news o w xs (own_of_row (size := 1) (n := xs.length) h (by simp) hm) (by simpa using ho)
  exact ⟨row_of_full this.1, this.2⟩
theorem row_there {w : World} {e : TypeId} {g : Nat} {xs : List Value} (h : RowV w g e xs) (hm : xs.length ≤ maxLen) (o m : Nat) (ho : o + m ≤ xs.length) : w.there g o m :=
  own_there (own_of_row (size := 1) (n := xs.length) h (by simp) hm) o m (by simpa using ho)
end Go.Proofs.Ytiglffkbaddefaa
namespace Go.Proofs.Ytiglffkbaddefaa
open Go.RowKit
set_option linter.unusedVariables false

theorem take_snoc {l : List Ent} {k : Nat} {e : Ent} (h : l[k]? = some e) : l.take (k + 1) = l.take k ++ [e] := by
  obtain ⟨hk, rfl⟩ := List.getElem?_eq_some_iff.1 h
  exact List.take_succ_eq_append_getElem hk
/-- No two of them have one address. -/
def Dst (l : List Ent) : Prop := l.Pairwise fun a b => a.adr ≠ b.adr
def stepR (e : Ent) (s : List Ent × Bool) (x : Ent) : List Ent × Bool :=
  let s1 := if s.2 = false ∧ Op.bytesLess x.adr.1 e.adr.1 = false then (s.1 ++ [e], true) else s
  if x.adr = e.adr then s1 else (s1.1 ++ [x], s1.2)
def foldR (e : Ent) (l : List Ent) : List Ent × Bool := l.foldl (stepR e) ([], false)
def endR (e : Ent) (s : List Ent × Bool) : List Ent := if s.2 = true then s.1 else s.1 ++ [e]
def putR (l : List Ent) (e : Ent) : List Ent := endR e (foldR e l)
theorem stepR_put {e x : Ent} {o : List Ent} {p : Bool} (h : p = false ∧ Op.bytesLess x.adr.1 e.adr.1 = false) : stepR e (o, p) x = if x.adr = e.adr then (o ++ [e], true) else (o ++ [e] ++ [x], true) := by
  unfold stepR
  simp only [if_pos h]
theorem stepR_keep {e x : Ent} {o : List Ent} {p : Bool} (h : ¬ (p = false ∧ Op.bytesLess x.adr.1 e.adr.1 = false)) : stepR e (o, p) x = if x.adr = e.adr then (o, p) else (o ++ [x], p) := by
  unfold stepR
  simp only [if_neg h]
theorem foldR_snoc (e : Ent) (l : List Ent) (x : Ent) : foldR e (l ++ [x]) = stepR e (foldR e l) x := by simp [foldR, List.foldl_append]
theorem foldR_mem (e : Ent) (l : List Ent) : ∀ y, y ∈ (foldR e l).1 ↔ (y ∈ l ∧ y.adr ≠ e.adr) ∨ ((foldR e l).2 = true ∧ y = e) := by
  induction l using snocInd with
  | nil => intro y; simp [foldR]
  | append_singleton l x ih =>
    intro y
    rw [foldR_snoc]
    unfold stepR
    generalize foldR e l = s at ih
    obtain ⟨o, p⟩ := s
    simp only at ih
    by_cases h1 : p = false ∧ Op.bytesLess x.adr.1 e.adr.1 = false
    · simp only [if_pos h1]
      obtain ⟨rfl, _⟩ := h1
      by_cases h2 : x.adr = e.adr
      · rw [if_pos h2]
        simp only [List.mem_append, List.mem_singleton, ih y]
        constructor
        · rintro ((⟨a, b⟩ | ⟨a, _⟩) | rfl)
          · exact .inl ⟨.inl a, b⟩
          · cases a
          · exact .inr ⟨trivial, rfl⟩
        · rintro (⟨a | rfl, b⟩ | ⟨_, rfl⟩)
          · exact .inl (.inl ⟨a, b⟩)
          · exact absurd h2 b
          · exact .inr rfl
      · rw [if_neg h2]
        simp only [List.mem_append, List.mem_singleton, ih y]
        constructor
        · rintro (((⟨a, b⟩ | ⟨a, _⟩) | rfl) | rfl)
          · exact .inl ⟨.inl a, b⟩
          · cases a
          · exact .inr ⟨trivial, rfl⟩
          · exact .inl ⟨.inr rfl, h2⟩
        · rintro (⟨a | rfl, b⟩ | ⟨_, rfl⟩)
          · exact .inl (.inl (.inl ⟨a, b⟩))
          · exact .inr rfl
          · exact .inl (.inr rfl)
    · simp only [if_neg h1]
      by_cases h2 : x.adr = e.adr
      · rw [if_pos h2, ih y]
        simp only [List.mem_append, List.mem_singleton]
        constructor
        · rintro (⟨a, b⟩ | a)
          · exact .inl ⟨.inl a, b⟩
          · exact .inr a
        · rintro (⟨a | rfl, b⟩ | a)
          · exact .inl ⟨a, b⟩
          · exact absurd h2 b
          · exact .inr a
      · rw [if_neg h2]
        simp only [List.mem_append, List.mem_singleton, ih y]
        constructor
        · rintro ((⟨a, b⟩ | a) | rfl)
          · exact .inl ⟨.inl a, b⟩
          · exact .inr a
          · exact .inl ⟨.inr rfl, h2⟩
        · rintro (⟨a | rfl, b⟩ | a)
          · exact .inl (.inl ⟨a, b⟩)
          · exact .inr rfl
          · exact .inl (.inr a)
theorem Dst.snoc {l : List Ent} {x : Ent} : Dst (l ++ [x]) ↔ Dst l ∧ ∀ y ∈ l, y.adr ≠ x.adr := by
  unfold Dst
  rw [List.pairwise_append]
  simp
theorem foldR_dst (e : Ent) (l : List Ent) : Dst l → Dst (foldR e l).1 := by
  induction l using snocInd with
  | nil => intro _; simp [foldR, Dst]
  | append_singleton l x ih =>
    intro h
    obtain ⟨h1, h2⟩ := Dst.snoc.1 h
    have hm := foldR_mem e l
    have ih := ih h1
    rw [foldR_snoc]
    unfold stepR
    generalize foldR e l = s at ih hm
    obtain ⟨o, p⟩ := s
    simp only at ih hm
    have key : ∀ q : List Ent, Dst q → (∀ y ∈ q, y ∈ l ∨ y = e) → x.adr ≠ e.adr → Dst (q ++ [x]) := by
      intro q hq hq2 hx
      refine Dst.snoc.2 ⟨hq, fun y hy => ?_⟩
      rcases hq2 y hy with h | rfl
      · exact h2 y h
      · exact fun h => hx h.symm
    by_cases hc : p = false ∧ Op.bytesLess x.adr.1 e.adr.1 = false
    · simp only [if_pos hc]
      obtain ⟨rfl, _⟩ := hc
      have d1 : Dst (o ++ [e]) := Dst.snoc.2 ⟨ih, fun y hy => by
        rcases (hm y).1 hy with ⟨_, h⟩ | ⟨h, _⟩
        · exact h
        · cases h⟩
      by_cases hx : x.adr = e.adr
      · rw [if_pos hx]; exact d1
      · rw [if_neg hx]
        refine key _ d1 (fun y hy => ?_) hx
        rcases List.mem_append.1 hy with h | h
        · rcases (hm y).1 h with ⟨h, _⟩ | ⟨h, _⟩
          · exact .inl h
          · cases h
        · exact .inr (List.mem_singleton.1 h)
    · simp only [if_neg hc]
      by_cases hx : x.adr = e.adr
      · rw [if_pos hx]; exact ih
      · rw [if_neg hx]
        refine key _ ih (fun y hy => ?_) hx
        rcases (hm y).1 hy with ⟨h, _⟩ | ⟨_, h⟩
        · exact .inl h
        · exact .inr h
theorem foldR_len (e : Ent) (l : List Ent) : (foldR e l).1.length = l.countP (fun x => decide (x.adr ≠ e.adr)) + if (foldR e l).2 = true then 1 else 0 := by
  induction l using snocInd with
  | nil => simp [foldR]
  | append_singleton l x ih =>
    rw [foldR_snoc, List.countP_append]
    unfold stepR
    generalize foldR e l = s at ih
    obtain ⟨o, p⟩ := s
    simp only at ih
    have h1 : ([x].countP fun y => decide (y.adr ≠ e.adr)) = if x.adr = e.adr then 0 else 1 := by
      by_cases hx : x.adr = e.adr <;> simp [hx]
    rw [h1]
    by_cases hc : p = false ∧ Op.bytesLess x.adr.1 e.adr.1 = false
    · simp only [if_pos hc]
      obtain ⟨rfl, hb⟩ := hc
      rw [if_neg (by decide)] at ih
      by_cases hx : x.adr = e.adr
      · rw [if_pos hx, if_pos hx, if_pos rfl, List.length_append, ih]; rfl
      · rw [if_neg hx, if_neg hx]; simp only [List.length_append, ih, List.length_singleton, if_true]
    · simp only [if_neg hc]
      by_cases hx : x.adr = e.adr
      · rw [if_pos hx, if_pos hx]; simp only [ih]; omega
      · rw [if_neg hx, if_neg hx]; simp only [List.length_append, ih, List.length_singleton]; omega
theorem putR_mem (l : List Ent) (e : Ent) (y : Ent) : y ∈ putR l e ↔ (y ∈ l ∧ y.adr ≠ e.adr) ∨ y = e := by
  unfold putR endR
  have h := foldR_mem e l y
  cases hp : (foldR e l).2
  · rw [hp] at h
    simp only [Bool.false_eq_true, if_false, List.mem_append, List.mem_singleton, h]
    simp
  · rw [hp] at h
    simp only [if_true, h]
    simp
theorem putR_dst {l : List Ent} (e : Ent) (h : Dst l) : Dst (putR l e) := by
  unfold putR endR
  split
  · exact foldR_dst e l h
  · rename_i hp
    refine Dst.snoc.2 ⟨foldR_dst e l h, fun y hy => ?_⟩
    rcases (foldR_mem e l y).1 hy with ⟨_, h⟩ | ⟨h, _⟩
    · exact h
    · exact absurd h hp
theorem putR_len (l : List Ent) (e : Ent) : (putR l e).length = l.countP (fun x => decide (x.adr ≠ e.adr)) + 1 := by
  unfold putR endR
  have h := foldR_len e l
  split
  · rename_i hp; rw [h, if_pos hp]
  · rename_i hp; rw [List.length_append, h, if_neg hp]; rfl
theorem cnt_no {l : List Ent} {a : Adr} (h : ∀ x ∈ l, x.adr ≠ a) : l.countP (fun x => decide (x.adr ≠ a)) = l.length := List.countP_eq_length.2 fun x hx => by simpa using h x hx
theorem cnt_one : ∀ {l : List Ent} {a : Adr}, Dst l → (∃ x ∈ l, x.adr = a) → l.countP (fun x => decide (x.adr ≠ a)) + 1 = l.length
  | [], _, _, ⟨_, h, _⟩ => by cases h
  | x :: l, a, hd, ⟨y, hy, ha⟩ => by
    obtain ⟨h1, h2⟩ := List.pairwise_cons.1 hd
    by_cases hx : x.adr = a
    · have : l.countP (fun x => decide (x.adr ≠ a)) = l.length := cnt_no fun z hz e => h1 z hz (hx.trans e.symm)
      rw [List.countP_cons_of_neg (by simp [hx]), this, List.length_cons]
    · rcases List.mem_cons.1 hy with rfl | hy
      · exact absurd ha hx
      · have := cnt_one h2 ⟨y, hy, ha⟩
        rw [List.countP_cons_of_pos (by simp [hx]), List.length_cons]
        omega
theorem Dst.same {l : List Ent} (h : Dst l) {x y : Ent} (hx : x ∈ l) (hy : y ∈ l) (ha : x.adr = y.adr) : x = y := by
  obtain ⟨i, hi, rfl⟩ := List.mem_iff_getElem.1 hx
  obtain ⟨j, hj, rfl⟩ := List.mem_iff_getElem.1 hy
  rcases Nat.lt_trichotomy i j with h1 | h1 | h1
  · exact absurd ha (List.pairwise_iff_getElem.1 h i j hi hj h1)
  · subst h1; rfl
  · exact absurd ha.symm (List.pairwise_iff_getElem.1 h j i hj hi h1)
/-- One less. -/
def dropR (l : List Ent) (k : Nat) : List Ent := l.take k ++ l.drop (k + 1)
theorem dropR_split {l : List Ent} {k : Nat} {e : Ent} (he : l[k]? = some e) : l = l.take k ++ (e :: l.drop (k + 1)) := by
  obtain ⟨hk, rfl⟩ := List.getElem?_eq_some_iff.1 he
  rw [← List.drop_eq_getElem_cons hk, List.take_append_drop]
theorem dropR_len {l : List Ent} {k : Nat} {e : Ent} (he : l[k]? = some e) : (dropR l k).length + 1 = l.length := by
  conv => rhs; rw [dropR_split he]
  unfold dropR
  simp only [List.length_append, List.length_cons]
  omega
theorem dropR_dst {l : List Ent} {k : Nat} {e : Ent} (he : l[k]? = some e) (h : Dst l) : Dst (dropR l k) := by
  rw [dropR_split he] at h
  unfold Dst at *
  unfold dropR
  rw [List.pairwise_append] at h ⊢
  obtain ⟨h1, h2, h3⟩ := h
  exact ⟨h1, (List.pairwise_cons.1 h2).2, fun a ha b hb => h3 a ha b (List.mem_cons_of_mem _ hb)⟩
theorem dropR_mem {l : List Ent} {k : Nat} {e : Ent} (he : l[k]? = some e) (h : Dst l) (y : Ent) : y ∈ dropR l k ↔ y ∈ l ∧ y.adr ≠ e.adr := by
  have hs := dropR_split he
  have hd := h
  rw [hs] at hd
  unfold Dst at hd
  rw [List.pairwise_append] at hd
  obtain ⟨_, h2, h3⟩ := hd
  have h4 := (List.pairwise_cons.1 h2).1
  unfold dropR
  constructor
  · intro hy
    rcases List.mem_append.1 hy with h1 | h1
    · exact ⟨List.mem_of_mem_take h1, h3 y h1 e (List.mem_cons_self ..)⟩
    · exact ⟨List.mem_of_mem_drop h1, fun e0 => h4 y h1 e0.symm⟩
  · rintro ⟨h1, h5⟩
    rw [hs] at h1
    rcases List.mem_append.1 h1 with h1 | h1
    · exact List.mem_append_left _ h1
    · rcases List.mem_cons.1 h1 with rfl | h1
      · exact absurd rfl h5
      · exact List.mem_append_right _ h1
end Go.Proofs.Ytiglffkbaddefaa
