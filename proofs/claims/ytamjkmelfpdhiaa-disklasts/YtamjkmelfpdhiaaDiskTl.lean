/-
  Layer 6, naming no program: a row of sectors of the call's own that may begin in the midst of its block: read, cut from the front, and appended to.
-/
import Derived.Test.YtamjkmelfpdhiaaDiskM
import Derived.Deep.AppendSrc
import Derived.Laws.OwnMore
namespace Go.Proofs.Ytamjkmelfpdhiaa
open Go.RowKit Go.Maps
set_option linter.unusedVariables false

/-- A row of sectors of the call's own, at an offset. -/
def Tl (w : World) (base : Nat) (e : TypeId) (N : Nat) (v : Value) (l : List Sec) : Prop :=
  ∃ (g cap : Nat) (pre : List Sec), v = .slice (some ⟨g, pre.length * 256, none⟩) l.length cap ∧ pre.length + l.length ≤ N ∧ w.ownsRow base e 256 (.slice (some ⟨g, 0, none⟩) (pre.length + l.length) (pre.length + cap)) (pre.length + l.length) (secs (pre ++ l))
section
variable {w w' : World} {base : Nat} {e : TypeId} {N : Nat} {v : Value} {l : List Sec}
theorem Tl.of {g cap n : Nat} (h : w.ownsRow base e 256 (.slice (some ⟨g, 0, none⟩) n cap) n (secs l)) (hn : l.length = n) (hN : n ≤ N) : Tl w base e N (.slice (some ⟨g, 0, none⟩) n cap) l := by
  subst hn
  exact ⟨g, cap, [], by simp, by simpa using hN, by simpa using h⟩
theorem Tl.but {L : List Nat} {B : Nat} (h : Tl w base e N v l) (hb : But L B w w') (hB : ∀ k, v.ownBlock = some k → k < B ∧ k ∉ L) : Tl w' base e N v l := by
  obtain ⟨g, cap, pre, rfl, h2, h3⟩ := h
  exact ⟨g, cap, pre, rfl, h2, own_but h3 hb fun k hk => hB k hk⟩
theorem Tl.lt (h : Tl w base e N v l) {k : Nat} (hk : v.ownBlock = some k) : base ≤ k ∧ k < w.heap.size := by
  obtain ⟨g, cap, pre, rfl, h2, h3⟩ := h
  exact h3.lt k hk
theorem Tl.mono {M : Nat} (h : Tl w base e N v l) (hM : N ≤ M) : Tl w base e M v l := by
  obtain ⟨g, cap, pre, h1, h2, h3⟩ := h
  exact ⟨g, cap, pre, h1, by omega, h3⟩
theorem Tl.apart {g : Nat} {t : TypeId} {cs : List Value} (h : Tl w base e N v l) (h' : RowV w g t cs) (hne : e ≠ t) : v.ownBlock ≠ some g := by
  obtain ⟨g', cap, pre, rfl, h2, h3⟩ := h
  exact fun hk => own_row_apart h3 h' hne hk
/-- Its form, and where each sector lies. -/
theorem Tl.form (h : Tl w base e N v l) : ∃ g k cap, v = .slice (some ⟨g, k, none⟩) l.length cap ∧ base ≤ g ∧ g < w.heap.size ∧ l.length ≤ cap ∧ cap ≤ maxLen ∧ ∀ i s, l[i]? = some s → w.rangeAt g (k + i * 256) s.cs := by
  obtain ⟨g, cap, pre, rfl, h2, h3⟩ := h
  refine ⟨g, _, cap, rfl, (h3.lt g rfl).1, (h3.lt g rfl).2, ?_, ?_, fun i s hs => ?_⟩
  · rcases h3.2 with ⟨h4, _⟩ | ⟨g', cap', cur, h4, _, _, h5, h6, _⟩
    · cases h4
    · simp only [Value.slice.injEq] at h4; omega
  · rcases h3.2 with ⟨h4, _⟩ | ⟨g', cap', cur, h4, _, _, h5, h6, _⟩
    · cases h4
    · simp only [Value.slice.injEq] at h4; omega
  · have := sec_range h3 (i := pre.length + i) (s := s) (by rw [List.getElem?_append_right (by omega), Nat.add_sub_cancel_left]; exact hs)
    rwa [Nat.add_mul] at this
/-- Cut from the front. -/
theorem Tl.cut {g k len cap : Nat} (h : Tl w base e N (.slice (some ⟨g, k, none⟩) len cap) l) (i : Nat) (hi : i ≤ l.length) : Tl w base e N (.slice (some ⟨g, k + i * 256, none⟩) (len - i) (cap - i)) (l.drop i) := by
  obtain ⟨g', cap', pre, h1, h2, h3⟩ := h
  simp only [Value.slice.injEq, Option.some.injEq, Addr.mk.injEq, and_true] at h1
  obtain ⟨⟨rfl, rfl⟩, rfl, rfl⟩ := h1
  have hc : l.length ≤ cap := by
    rcases h3.2 with ⟨h4, _⟩ | ⟨g', cap', cur, h4, _, _, h5, h6, _⟩
    · cases h4
    · simp only [Value.slice.injEq] at h4; omega
  refine ⟨g, cap - i, pre ++ l.take i, ?_, ?_, ?_⟩
  · simp only [List.length_append, List.length_take, List.length_drop, Nat.min_eq_left hi, Nat.add_mul]
  · simp only [List.length_append, List.length_take, List.length_drop, Nat.min_eq_left hi]; omega
  · have e1 : (pre ++ l.take i).length + (l.drop i).length = pre.length + l.length := by simp only [List.length_append, List.length_take, List.length_drop, Nat.min_eq_left hi]; omega
    have e2 : (pre ++ l.take i).length + (cap - i) = pre.length + cap := by simp only [List.length_append, List.length_take, Nat.min_eq_left hi]; omega
    rw [e1, e2, List.append_assoc, List.take_append_drop]
    exact h3
end
/-- One sector more. -/
theorem run_append_tl {P : Program} (w : World) (base : Nat) (t ty e : TypeId) (i : TypeInfo) (z : Value) (ht : P.underlying t = some (.slice e)) (hi : P.info? e = some i) (hz : i.zero = some z) (hsize : i.size = 256) (hby : i.bytes = 256) (hzs : z.cells.size = 256)
    {N : Nat} {v : Value} {l : List Sec} (h : Tl w base e N v l) (s : Sec) (a : Addr) (c : Nat) (hnews : ∀ j u, s.cs[j]? = some u → w.cell? (a.add j) = some u) (hN : N ≤ 1000000) (hbase : base ≤ w.heap.size) :
    ∃ v' w', (Builtin.append_ #[t, t] ty #[v, .slice (some a) 1 c]).run P w = .ok v' w' ∧ Tl w' base e (N + 1) v' (l ++ [s]) ∧ w.grownBy w' v.ownBlock ∧ (v'.ownBlock = v.ownBlock ∨ v'.ownBlock = some w.heap.size) := by
  obtain ⟨g, cap, pre, rfl, h2, hown⟩ := h
  have hsrc : Src P i.size t (.slice (some a) 1 c) 1 s.cs w := Src.ofSlice w ht a 1 c s.cs (by rw [Sec.cs_length, hsize]) hnews s.one
  have hml : (1000001 : Nat) ≤ maxLen := by unfold maxLen; omega
  by_cases hroom : l.length + 1 ≤ cap
  · obtain ⟨v', w', hr, ho', hg', _, _⟩ := run_append_own_at (P := P) w base t ty e i z 256 256 ht hi hz hsize hby hzs (by omega) _ _ _ hown a 1 c s.cs (by rw [Sec.cs_length]) hnews s.one (by omega) (by omega) hbase
    obtain ⟨cur, hcur, hsz⟩ : ∃ cur, w.heap[g]? = some (.cells cur e (0, 0)) ∧ cur.size = (pre.length + cap) * 256 := by
      rcases hown.2 with ⟨h4, _⟩ | ⟨g', cap', cur, h4, _, h5, _, _, h6, _⟩
      · cases h4
      · simp only [Value.slice.injEq, Option.some.injEq, Addr.mk.injEq, and_true] at h4
        obtain ⟨rfl, _, rfl⟩ := h4
        exact ⟨cur, h5, h6⟩
    have hc : ∀ j, j < s.cs.length → (w.cell? ⟨g, (pre.length + l.length) * 256 + j, none⟩).isSome = true := by
      intro j hj
      rw [Sec.cs_length] at hj
      have h7 : (pre.length + l.length) * 256 + j < cur.size := by rw [hsz]; omega
      simp [World.cell?, hcur, h7]
    have hf : ∀ j, j < s.cs.length → w.frozen? ⟨g, (pre.length + l.length) * 256 + j, none⟩ = false := fun j _ => hown.frozenAt _
    have ea : pre.length * 256 + l.length * i.size = (pre.length + l.length) * 256 := by rw [hsize, Nat.add_mul]
    have eb : 0 + (pre.length + l.length) * i.size = (pre.length + l.length) * 256 := by rw [hsize, Nat.zero_add]
    have r1 := run_append_room_src (P := P) w t t ty e i ht hi g (pre.length * 256) l.length cap _ 1 s.cs hsrc hroom (by rw [ea]; exact hc) (by rw [ea]; exact hf)
    have r2 := run_append_room_src (P := P) w t t ty e i ht hi g 0 (pre.length + l.length) (pre.length + cap) _ 1 s.cs hsrc (by omega) (by rw [eb]; exact hc) (by rw [eb]; exact hf)
    rw [r2] at hr
    injection hr with e1 e2
    subst e1
    rw [ea] at r1
    rw [eb] at e2
    subst e2
    refine ⟨_, _, r1, ⟨g, cap, pre, by simp, by simp; omega, ?_⟩, hg', .inl rfl⟩
    have e3 : pre.length + (l ++ [s]).length = pre.length + l.length + 1 := by simp; omega
    rw [e3, ← List.append_assoc, secs_snoc]
    exact ho'
  · have hcl : l.length ≤ cap := by
      rcases hown.2 with ⟨h4, _⟩ | ⟨g', cap', cur, h4, _, _, h5, h6, _⟩
      · cases h4
      · simp only [Value.slice.injEq] at h4; omega
    have hcells : ∀ j u, (secs l)[j]? = some u → w.drew.cell? ((⟨g, pre.length * 256, none⟩ : Addr).add j) = some u := by
      intro j u hj
      have := own_range hown (pre.length * 256) (secs l) (fun j u hj => by rw [secs_append, List.getElem?_append_right (by rw [secs_length]; omega), secs_length, Nat.add_sub_cancel_left]; exact hj) j u hj
      rw [Addr.add_lit]
      exact this
    have hold := run_firstCells_some (P := P) w.drew i.size l.length ⟨g, pre.length * 256, none⟩ l.length cap (secs l) (by rw [secs_length, hsize]) hcells
    have r1 := run_append_grow_src (P := P) w t t ty e i z ht hi hz _ l.length cap (secs l) hold _ 1 s.cs hsrc (by omega) (by omega) (growslice_fits (by omega) (by rw [hby]; omega))
    refine ⟨_, _, r1, ⟨w.heap.size, grownCap w (l.length + 1) cap e, [], by simp, by simp; omega, ?_⟩, ⟨rfl, rfl, rfl, by simp, fun k hk _ => heap_alloc_old w.drew _ hk⟩, .inr rfl⟩
    have hge := grownCap_ge w (l.length + 1) cap e
    have hcm : grownCap w (l.length + 1) cap e ≤ maxLen := grownCap_le_maxLen w (l.length + 1) cap e (by omega)
    have hlen : (secs (l ++ [s])).length = (l.length + 1) * 256 := by rw [secs_length]; simp
    simp only [List.length_nil, Nat.zero_add, List.nil_append, List.length_append, List.length_cons]
    refine ⟨hlen, .inr ⟨w.heap.size, _, _, rfl, hbase, heap_alloc_new w.drew _, hge, hcm, ?_, ?_⟩⟩
    · rw [← secs_snoc]
      simp only [Array.size_append, List.size_toArray, size_zeroCells, hzs, hlen, ← Nat.add_mul]
      congr 1
      omega
    · rw [← secs_snoc, Array.toList_append, ← hlen]
      exact List.take_left
theorem wp_append_tl {P : Program} {o : Oper} {a : Act} {w : World} {K : Act → World → Prop} {Q : Exit → Act → World → Prop} (s x : Operand) (t : TypeId) (ho : o.op = .call { callee := .builtin .append, args := #[s, x], argTypes := #[t, t] })
    (base : Nat) (e : TypeId) {z : Value} (ht : P.underlying t = some (.slice e)) (hi : (P.info? e).map (fun i => (i.zero, i.size, i.bytes)) = some (some z, 256, 256)) (hzs : z.cells.size = 256)
    {N : Nat} {v : Value} {l : List Sec} (hs : a.eval s = v) (h : Tl w base e N v l) (sc : Sec) (ad : Addr) (c : Nat) (hx : a.eval x = .slice (some ad) 1 c) (hnews : ∀ j u, sc.cs[j]? = some u → w.cell? (ad.add j) = some u) (hN : N ≤ 1000000) (hbase : base ≤ w.heap.size)
    (hn : ∀ v' w', Tl w' base e (N + 1) v' (l ++ [sc]) → w.grownBy w' v.ownBlock → (v'.ownBlock = v.ownBlock ∨ v'.ownBlock = some w.heap.size) → K (a.put o.dst v') w') : o.wp P a w K Q := by
  obtain ⟨i, hie, hz, hs1, hb1⟩ := info_parts hi
  obtain ⟨v', w', hr, h2, h3, h4⟩ := run_append_tl (P := P) w base t o.type e i z ht hie hz hs1 hb1 hzs h sc ad c hnews hN hbase
  unfold Oper.wp execOp
  simp only [ho, resolve, invoke, builtin, Sem.run_bind, Sem.run_pure, Result.andThen_ok, List.map_toArray, List.map_cons, List.map_nil, hs, hx, hr]
  exact hn v' w' h2 h3 h4

/-! ### What was seen of each sector -/
/-- What was seen of a sector: the last is what it holds; what lasts, and all that waits, was seen. -/
structure Tied (d : Dk) (ss : Nat → List Sec) : Prop where
  six : d.dur.length = 6
  up : d.down = false
  fuse : d.fuse = none
  last : ∀ k, k < 6 → (ss k).getLast? = (Dk.settle d.dur d.wait)[k]?
  dur : ∀ k s, d.dur[k]? = some s → s ∈ ss k
  wait : ∀ c ∈ d.wait, c.2 ∈ ss c.1
def upd (ss : Nat → List Sec) (k : Nat) (l : List Sec) : Nat → List Sec := fun j => if j = k then l else ss j
theorem Tied.alive {d : Dk} {ss : Nat → List Sec} (h : Tied d ss) : d.dead = false := by simp [Dk.dead, h.up, h.fuse]
theorem Tied.stepped {d : Dk} {ss : Nat → List Sec} (h : Tied d ss) : d.stepped = { d with steps := d.steps + 1 } := by
  unfold Dk.stepped
  rw [h.alive]
  obtain ⟨a, b, c, f, g⟩ := d
  have := h.fuse
  simp only at this
  subst this
  rfl
theorem Tied.write {d : Dk} {ss : Nat → List Sec} (h : Tied d ss) {x : Nat} (hx : x < 6) (s : Sec) (hw : ∀ c ∈ d.wait, c.1 < d.dur.length) : (d.write x s).2 = 0 ∧ Tied (d.write x s).1 (upd ss x (ss x ++ [s])) := by
  have hh : d.has (x : Int) = true := by simp [Dk.has, h.six]; omega
  unfold Dk.write
  rw [if_pos hh, if_neg (by rw [h.alive]; decide), h.stepped]
  refine ⟨rfl, h.six, h.up, h.fuse, fun k hk => ?_, fun k t ht => ?_, fun c hc => ?_⟩
  · show (upd ss x (ss x ++ [s]) k).getLast? = (Dk.settle d.dur (d.wait ++ [((x : Int).toNat, s)]))[k]?
    rw [settle_snoc, List.getElem?_set]
    unfold upd
    by_cases e : k = x
    · subst e; simp [settle_length, h.six, hk]
    · have e' : ¬ x = k := fun h => e h.symm
      simp [e, e', h.last k hk]
  · have := h.dur k t ht
    unfold upd
    split
    · rename_i e; subst e; simp [this]
    · exact this
  · rcases List.mem_append.1 hc with hc | hc
    · have := h.wait c hc
      unfold upd
      split
      · rename_i e; rw [e] at this; simp [this]
      · exact this
    · simp at hc; subst hc; simp [upd]
theorem Tied.bad {d : Dk} {ss : Nat → List Sec} (h : Tied d ss) {x : Int} (hx : ¬ (0 ≤ x ∧ x < 6)) (s : Sec) : d.write x s = (d, 2) := by
  have hh : d.has x = false := by
    simp only [Dk.has, h.six, Bool.and_eq_false_iff, decide_eq_false_iff_not]
    by_cases h0 : 0 ≤ x
    · exact .inr fun h1 => hx ⟨h0, by omega⟩
    · exact .inl h0
  simp [Dk.write, hh]
theorem Tied.flush {d : Dk} {ss ss' : Nat → List Sec} (h : Tied d ss) (hs : ∀ k, k < 6 → ss' k = (ss k).drop ((ss k).length - 1)) : d.flush.2 = 0 ∧ Tied d.flush.1 ss' := by
  unfold Dk.flush
  rw [if_neg (by rw [h.alive]; decide), h.stepped]
  have hl : ∀ k, k < 6 → (ss' k).getLast? = (Dk.settle d.dur d.wait)[k]? ∧ ∀ s, (Dk.settle d.dur d.wait)[k]? = some s → s ∈ ss' k := by
    intro k hk
    have h1 := h.last k hk
    rw [hs k hk, ← h1]
    cases hb : (ss k).getLast? with
    | none =>
      rw [List.getLast?_eq_none_iff.1 hb]; simp
    | some t =>
      obtain ⟨ys, e⟩ := List.getLast?_eq_some_iff.1 hb
      rw [e]
      simp
  refine ⟨rfl, by show (Dk.settle d.dur d.wait).length = 6; rw [settle_length]; exact h.six, h.up, h.fuse, fun k hk => (hl k hk).1, fun k s hs' => ?_, fun c hc => by cases hc⟩
  have hk : k < 6 := by
    have := (List.getElem?_eq_some_iff.1 hs').1
    have h6 : (Dk.settle d.dur d.wait).length = 6 := by rw [settle_length]; exact h.six
    rw [h6] at this
    exact this
  exact (hl k hk).2 s hs'
theorem settle_mem {ss : Nat → List Sec} : ∀ (ws : List Chg) (l : List Sec), (∀ k s, l[k]? = some s → s ∈ ss k) → (∀ c ∈ ws, c.2 ∈ ss c.1) → ∀ k s, (Dk.settle l ws)[k]? = some s → s ∈ ss k
  | [], l, h, _, k, s, hk => h k s hk
  | c :: ws, l, h, hw, k, s, hk => by
    refine settle_mem ws (l.set c.1 c.2) (fun k s hks => ?_) (fun c hc => hw c (by simp [hc])) k s hk
    rw [List.getElem?_set] at hks
    split at hks
    · rename_i e
      subst e
      split at hks
      · injection hks with e; subst e; exact hw c (by simp)
      · cases hks
    · exact h k s hks
/-- Behind any crash each sector holds something that was seen of it. -/
theorem Tied.crash {d : Dk} {ss : Nat → List Sec} (h : Tied d ss) (keep : List Bool) : ∀ k, k < 6 → ∃ s, (d.crash keep).1.dur[k]? = some s ∧ s ∈ ss k ∧ (d.crash keep).1.read k = (s, 0) := by
  intro k hk
  have h6 : (d.crash keep).1.dur.length = 6 := by show (Dk.settle d.dur _).length = 6; rw [settle_length]; exact h.six
  have hs := List.getElem?_eq_getElem (show k < (d.crash keep).1.dur.length by omega)
  refine ⟨_, hs, settle_mem (Dk.kept keep d.wait) d.dur h.dur (fun c hc => ?_) k _ hs, ?_⟩
  · unfold Dk.kept at hc
    obtain ⟨p, hp, hc⟩ := List.mem_filterMap.1 hc
    split at hc
    · injection hc with e; subst e; exact h.wait _ (List.of_mem_zip hp).1
    · cases hc
  · have hh : (d.crash keep).1.has (k : Int) = true := by simp [Dk.has, h6]; omega
    unfold Dk.read
    rw [if_pos hh, if_neg (by show ¬ (false = true); decide)]
    show (Dk.look (d.crash keep).1.dur [] _, (0 : Int)) = _
    simp [Dk.look, List.getD_eq_getElem?_getD, hs]
theorem Tied.new : Tied (Dk.new 6) (fun _ => [zeroSec]) := by
  refine ⟨by simp [Dk.new], rfl, rfl, fun k hk => ?_, fun k s hs => ?_, fun c hc => by cases hc⟩
  · show _ = (List.replicate 6 zeroSec)[k]?
    rw [List.getElem?_replicate, if_pos hk]; rfl
  · have := List.mem_of_getElem? hs
    simp only [Dk.new, List.mem_replicate] at this
    simp [this.2]
end Go.Proofs.Ytamjkmelfpdhiaa
