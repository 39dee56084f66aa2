/-
  Layer 6: what DiskLasts has seen of each sector, as six rows that an array of slices holds.
-/
import Derived.Test.YtamjkmelfpdhiaaDiskLw
import Derived.Test.YtamjkmelfpdhiaaDiskTl
namespace Go.Proofs.Ytamjkmelfpdhiaa
open Go.RowKit Go.Maps
set_option linter.unusedVariables false
set_option linter.unusedSimpArgs false

/-- A value of one cell stored into a row. -/
theorem wp_store_slot {P : Program} {o : Oper} {a : Act} {w : World} {K : Act → World → Prop} {Q : Exit → Act → World → Prop} (ty : TypeId) (x y : Operand) (ho : o.op = .store ty x y) (b k : Nat) (hx : a.eval x = .pointer (some ⟨b, k, none⟩)) (v : Value) (hy : a.eval y = v) (h1 : v.oneCell' = true)
    (t : TypeId) (vs : List Value) (hr : RowV w b t vs) (hk : k < vs.length) (hi : (P.info? ty).map (·.size) = some 1)
    (h : ∀ w', RowV w' b t (vs.set k v) → w.grownBy w' (some b) → w'.heap.size = w.heap.size → K (a.put o.dst undef) w') : o.wp P a w K Q := by
  have hc : v.cells = #[v] := by cases v <;> first | rfl | cases h1
  have hst := run_storeCells_cells (P := P) b k [v] 0 w (by intro j hj; simp at hj; subst hj; rw [show k + 0 + 0 = k from rfl, hr.cell (List.getElem?_eq_getElem hk)]; rfl) (by intro j hj; unfold RowV at hr; simp [World.frozen?, hr]) (by intro u hu; simp at hu; subst hu; exact h1)
  obtain ⟨i, hq, hs⟩ : ∃ i, P.info? ty = some i ∧ i.size = 1 := by
    cases hq : P.info? ty with
    | none => simp [hq] at hi
    | some i => exact ⟨i, rfl, by simpa [hq] using hi⟩
  have e : (Instr.storeAt ty (.pointer (some ⟨b, k, none⟩)) v).run P w = .ok () (w.setCell ⟨b, k, none⟩ v) := by
    simp only [Nat.add_zero] at hst
    simp [Instr.storeAt, Instr.sureAddr, storeVar, sizeOf, typeInfo, hq, hc, hs, hst]
    rfl
  unfold Oper.wp execOp
  simp only [ho, hx, hy, Sem.run_bind, e, Result.andThen_ok, Sem.run_pure]
  exact h _ (hr.setCell k v) ⟨rfl, rfl, rfl, by simp [World.setCell], fun j _ hj => Below.heap_setCell _ _ _ _ (fun e => hj (by simp [e]))⟩ (by simp [World.setCell])
theorem wpList_store_slot {P : Program} {ops : Array Oper} {rest : List Oper} {o : Oper} {a : Act} {w : World} {Q : Exit → Act → World → Prop} (hgd : o.guard = none) (ty : TypeId) (x y : Operand) (ho : o.op = .store ty x y) (b k : Nat) (hx : a.eval x = .pointer (some ⟨b, k, none⟩)) (v : Value) (hy : a.eval y = v) (h1 : v.oneCell' = true)
    (t : TypeId) (vs : List Value) (hr : RowV w b t vs) (hk : k < vs.length) (hi : (P.info? ty).map (·.size) = some 1)
    (h : ∀ w', RowV w' b t (vs.set k v) → w.grownBy w' (some b) → w'.heap.size = w.heap.size → wpList P ops Q rest (a.put o.dst undef) w') : wpList P ops Q (o :: rest) a w :=
  wpList_plain hgd fun _ hK => wp_store_slot ty x y ho b k hx v hy h1 t vs hr hk hi fun w' a1 a2 a3 => hK _ _ (h w' a1 a2 a3)

theorem Tl.kept {w w' : World} {base N : Nat} {e : TypeId} {v : Value} {l : List Sec} (h : Tl w base e N v l) {row : Option Nat} (hg : w.grownBy w' row) (hne : ∀ k, v.ownBlock = some k → row ≠ some k) : Tl w' base e N v l :=
  h.but ((But.refl row.toList w.heap.size w).grown hg (by intro k e; left; simp [e]) (Nat.le_refl _)) (fun k hk => ⟨(h.lt hk).2, by have := hne k hk; simpa [Option.mem_toList] using this⟩)
theorem Tl.one {w : World} {base N : Nat} {e : TypeId} {v : Value} {l : List Sec} (h : Tl w base e N v l) : v.oneCell' = true := by
  obtain ⟨g, cap, pre, rfl, _⟩ := h
  rfl

structure Seen (W : World) (base b N n : Nat) (L : List Nat) (vs : List Value) (ss : Nat → List Sec) : Prop where
  row : RowV W b 42 vs
  hb : base ≤ b
  nb : b ∉ L
  len : vs.length = 6
  nil : ∀ k, n ≤ k → k < 6 → vs[k]? = some (.slice none 0 0)
  tl : ∀ (k : Nat) (v : Value), k < n → vs[k]? = some v → Tl W base 43 N v (ss k) ∧ ss k ≠ []
  ap : ∀ (i j : Nat) (v v' : Value), i ≠ j → vs[i]? = some v → vs[j]? = some v' → ∀ k, v.ownBlock = some k → v'.ownBlock ≠ some k
  off : ∀ (i : Nat) (v : Value) (k : Nat), vs[i]? = some v → v.ownBlock = some k → k ∉ L
section
variable {w w' : World} {base b N n : Nat} {L L' : List Nat} {vs : List Value} {ss : Nat → List Sec}
theorem Seen.lt (h : Seen w base b N n L vs ss) {i k : Nat} {v : Value} (hv : vs[i]? = some v) (hk : v.ownBlock = some k) : base ≤ k ∧ k < w.heap.size := by
  by_cases hn : i < n
  · exact (h.tl i v hn hv).1.lt hk
  · have hi : i < 6 := by have := (List.getElem?_eq_some_iff.1 hv).1; rw [h.len] at this; exact this
    rw [h.nil i (by omega) hi] at hv
    injection hv with hv
    subst hv
    cases hk
theorem Seen.far (h : Seen w base b N n L vs ss) {i : Nat} {v : Value} (hv : vs[i]? = some v) : v.ownBlock ≠ some b := by
  by_cases hn : i < n
  · exact (h.tl i v hn hv).1.apart h.row (by decide)
  · have hi : i < 6 := by have := (List.getElem?_eq_some_iff.1 hv).1; rw [h.len] at this; exact this
    rw [h.nil i (by omega) hi] at hv
    injection hv with hv
    subst hv
    intro h; cases h
theorem Seen.turn (h : Seen w base b N n L vs ss) (hb : But L w.heap.size w w') (hL : ∀ k ∈ L', k ∈ L ∨ w.heap.size ≤ k) : Seen w' base b N n L' vs ss := by
  refine ⟨rowV_but h.row hb h.row.lt h.nb, h.hb, fun hm => ?_, h.len, h.nil, fun k v hk hv => ?_, h.ap, fun i v k hv hk hm => ?_⟩
  · rcases hL b hm with h' | h'
    · exact h.nb h'
    · have := h.row.lt; omega
  · exact ⟨(h.tl k v hk hv).1.but hb fun j hj => ⟨(h.lt hv hj).2, h.off k v j hv hj⟩, (h.tl k v hk hv).2⟩
  · rcases hL k hm with h' | h'
    · exact h.off i v k hv hk h'
    · have := (h.lt hv hk).2; omega
theorem Seen.below (h : Seen w base b N n L vs ss) (hb : Below w.heap.size w w') : Seen w' base b N n L vs ss := h.turn (But.of _ hb) fun k hk => .inl hk
theorem Seen.mono {M : Nat} (h : Seen w base b N n L vs ss) (hM : N ≤ M) : Seen w base b M n L vs ss :=
  ⟨h.row, h.hb, h.nb, h.len, h.nil, fun k v hk hv => ⟨(h.tl k v hk hv).1.mono hM, (h.tl k v hk hv).2⟩, h.ap, h.off⟩
/-- One of the rows made another one, and laid into the array. -/
theorem Seen.put {w2 : World} {x M n' : Nat} {v v' : Value} {l : List Sec} (h : Seen w base b N n L vs ss) (hx : vs[x]? = some v) (hg : w.grownBy w' v.ownBlock) (ht : Tl w' base 43 M v' l) (hM : N ≤ M) (hl : l ≠ [])
    (hL : ∀ k ∈ L, k < w.heap.size) (ha : ∀ k, v'.ownBlock = some k → v.ownBlock = some k ∨ w.heap.size ≤ k) (hn : (n' = n ∧ x < n) ∨ (n' = n + 1 ∧ x = n)) (hr2 : RowV w2 b 42 (vs.set x v')) (hg2 : w'.grownBy w2 (some b)) : Seen w2 base b M n' L (vs.set x v') (upd ss x l) := by
  have hx6 : x < vs.length := (List.getElem?_eq_some_iff.1 hx).1
  have hr' : RowV w' b 42 vs := h.row.keep hg (h.far hx)
  refine ⟨hr2, h.hb, h.nb, by rw [List.length_set]; exact h.len, fun k hk hk6 => ?_, fun k u hk hu => ?_, fun i j u u' hij hu hu' k hk => ?_, fun i u k hu hk hm => ?_⟩
  · rw [List.getElem?_set_ne (by omega)]; exact h.nil k (by omega) hk6
  · rw [List.getElem?_set] at hu
    unfold upd
    by_cases e : x = k
    · subst e
      rw [if_pos rfl, if_pos hx6] at hu
      injection hu with hu
      subst hu
      rw [if_pos rfl]
      exact ⟨ht.kept hg2 (fun j hj e => by have := ht.apart hr' (by decide); rw [hj] at this; exact this e.symm), hl⟩
    · rw [if_neg e] at hu
      rw [if_neg (fun h => e h.symm)]
      have h1 := h.tl k u (by omega) hu
      exact ⟨((h1.1.kept hg (fun j hj e' => h.ap x k v u e hx hu j e' hj)).kept hg2 (fun j hj e' => by have := h.far hu; rw [hj] at this; exact this e'.symm)).mono hM, h1.2⟩
  · rw [List.getElem?_set] at hu hu'
    by_cases e : x = i
    · subst e
      rw [if_pos rfl, if_pos hx6] at hu
      injection hu with hu
      subst hu
      rw [if_neg hij] at hu'
      intro hk'
      rcases ha k hk with h1 | h1
      · exact h.ap x j v u' hij hx hu' k h1 hk'
      · have := (h.lt hu' hk').2; omega
    · rw [if_neg e] at hu
      by_cases e' : x = j
      · subst e'
        rw [if_pos rfl, if_pos hx6] at hu'
        injection hu' with hu'
        subst hu'
        intro hk'
        rcases ha k hk' with h1 | h1
        · exact h.ap i x u v hij hu hx k hk h1
        · have := (h.lt hu hk).2; omega
      · rw [if_neg e'] at hu'
        exact h.ap i j u u' hij hu hu' k hk
  · rw [List.getElem?_set] at hu
    by_cases e : x = i
    · subst e
      rw [if_pos rfl, if_pos hx6] at hu
      injection hu with hu
      subst hu
      rcases ha k hk with h1 | h1
      · exact h.off x v k hx h1 hm
      · have := hL k hm; omega
    · rw [if_neg e] at hu
      exact h.off i u k hu hk hm
end

/-- The disk d, and what was seen of it, behind k acts. -/
structure Held (w0 : World) (base b g n : Nat) (W : World) (k : Nat) (L : List Nat) (vs : List Value) (ss : Nat → List Sec) (d : Dk) : Prop where
  seen : Seen W base b (k + 1) n L vs ss
  disk : Disk W base L g d
  ok : d.Ok
  steps : d.steps ≤ k
  wait : d.wait.length ≤ k
  bel : Below base w0 W
  hs : base ≤ W.heap.size
section
variable {w0 W W' : World} {base b g n k : Nat} {L L' : List Nat} {vs : List Value} {ss : Nat → List Sec} {d d' : Dk}
theorem Held.drew (h : Held w0 base b g n W k L vs ss d) : Held w0 base b g n W.drew k L vs ss d :=
  ⟨h.seen.turn (w' := W.drew) ⟨rfl, rfl, rfl, Nat.le_refl _, fun _ _ _ => rfl⟩ (fun k hk => .inl hk), h.disk.drew, h.ok, h.steps, h.wait, h.bel.drew, h.hs⟩
theorem Held.below (h : Held w0 base b g n W k L vs ss d) (hb : Below W.heap.size W W') : Held w0 base b g n W' k L vs ss d :=
  ⟨h.seen.below hb, h.disk.below hb, h.ok, h.steps, h.wait, h.bel.trans (hb.mono h.hs), Nat.le_trans h.hs hb.size⟩
/-- The disk turned. -/
theorem Held.turn (h : Held w0 base b g n W k L vs ss d) (hD : Disk W' base L' g d') (hb : But L W.heap.size W W') (hL : ∀ k ∈ L', k ∈ L ∨ W.heap.size ≤ k) {k' : Nat} (hk : k ≤ k') (hok : d'.Ok) (hst : d'.steps ≤ k') (hw : d'.wait.length ≤ k') : Held w0 base b g n W' k' L' vs ss d' :=
  ⟨(h.seen.turn hb hL).mono (by omega), hD, hok, hst, hw, h.bel.trans ((hb.less h.hs).below fun k hk => (h.disk.lt hk).1), Nat.le_trans h.hs hb.size⟩
/-- One row put. -/
theorem Held.put {w2 : World} {x n' k' : Nat} {v v' : Value} {l : List Sec} (h : Held w0 base b g n W k L vs ss d) (hx : vs[x]? = some v) (hg : W.grownBy W' v.ownBlock) (ht : Tl W' base 43 (k' + 1) v' l) (hk : k ≤ k') (hl : l ≠ [])
    (ha : ∀ k, v'.ownBlock = some k → v.ownBlock = some k ∨ W.heap.size ≤ k) (hn : (n' = n ∧ x < n) ∨ (n' = n + 1 ∧ x = n)) (hr2 : RowV w2 b 42 (vs.set x v')) (hg2 : W'.grownBy w2 (some b)) : Held w0 base b g n' w2 k' L (vs.set x v') (upd ss x l) d := by
  have hD1 : Disk W' base L g d := h.disk.but ((But.refl v.ownBlock.toList _ W).grown hg (by intro j e; left; simp [e]) (Nat.le_refl _)) (fun j hj => ⟨(h.disk.lt hj).2, by
    intro hm
    exact h.seen.off x v j hx (by simpa [Option.mem_toList] using hm) hj⟩)
  have hD2 : Disk w2 base L g d := hD1.but ((But.refl [b] _ W').grown hg2 (by intro j e; injection e with e; simp [e]) (Nat.le_refl _)) (fun j hj => ⟨(hD1.lt hj).2, by simp; rintro rfl; exact h.seen.nb hj⟩)
  have hb1 : Below base w0 W' := h.bel.trans ⟨hg.os, hg.tape, hg.output, hg.size, fun j hj => hg.block j (by have := h.hs; omega) (fun e => by have := (h.seen.lt hx e.symm).1; omega)⟩
  have hs1 : base ≤ W'.heap.size := Nat.le_trans h.hs hg.size
  exact ⟨h.seen.put hx hg ht (by omega) hl (fun j hj => (h.disk.lt hj).2) ha hn hr2 hg2, hD2, h.ok, by have := h.steps; omega, by have := h.wait; omega, below_grown hb1 hg2 h.seen.hb hs1, Nat.le_trans hs1 hg2.size⟩
end
end Go.Proofs.Ytamjkmelfpdhiaa
