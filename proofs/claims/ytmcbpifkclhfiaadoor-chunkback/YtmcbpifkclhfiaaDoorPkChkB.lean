/-
  Layer 13: the contracts of All and of the iterator that it answers: the chunks, each in a row of its own.
-/
import Derived.Test.YtmcbpifkclhfiaaDoorPkChkA
import Derived.Test.YtmcbpifkclhfiaaDoorPkRangeT
import Derived.RangeFuncBox
namespace Go.Proofs.YtmcbpifkclhfiaaDoor
open Go.RowKit Go.Shelf
set_option linter.unusedVariables false
set_option linter.unusedSimpArgs false
attribute [local go_sem] Oper.semAt_some

/-- The blocks of an iterator over a text: the box, the row. -/
def tblk (a : Nat) (A : Option Addr) : List Nat := a :: (A.map (·.block)).toList
/-- What an iterator over a text holds: the box of the text, and the text. -/
structure TextAt (w : World) (a : Nat) (A : Option Addr) (c : Nat) (b : List UInt8) : Prop where
  box : One w a (.slice A b.length c) 22
  row : w.ownsRow 0 5 1 (.slice A b.length c) b.length (cells b)
  le : b.length ≤ 100000
section
variable {w w' : World} {a c : Nat} {A : Option Addr} {b : List UInt8}
theorem TextAt.keeps (h : TextAt w a A c b) (hk : KeepsL (tblk a A) w w') : TextAt w' a A c b :=
  ⟨(hk a (by simp [tblk])).trans h.box, ⟨h.row.1, by
    rcases h.row.2 with hn | ⟨g', cap, cur, hv, hb, hg, rest⟩
    · exact .inl hn
    · injection hv with e1 e2 e3
      subst e1 e3
      exact .inr ⟨g', c, cur, rfl, hb, (hk g' (by simp [tblk])).trans hg, rest⟩⟩, h.le⟩
theorem TextAt.lt (h : TextAt w a A c b) : ∀ k ∈ tblk a A, k < w.heap.size := by
  intro k hk
  have h1 := h.box.lt
  simp only [tblk, List.mem_cons, Option.mem_toList, Option.mem_def, Option.map_eq_some_iff] at hk
  rcases hk with rfl | ⟨p, rfl, rfl⟩
  · exact h1
  · exact own_lt h.row rfl
theorem TextAt.below {B : Nat} (h : TextAt w a A c b) (hB : Below B w w') (hk : ∀ k ∈ tblk a A, k < B) : TextAt w' a A c b := h.keeps (fun k hm => hB.block k (hk k hm))
end
/-- What a round is handed: the chunk's number, and where it lies. -/
structure KEl where
  i : Nat
  A : Option Addr
  c : Nat
def KEl.enc (n : Nat) (x : KEl) : Array Value := #[.int .i64 (x.i : Int), .slice x.A (partK n x.i) x.c]
/-- It lies there. -/
def KEl.at_ (M : Nat) (b : List UInt8) (x : KEl) (W : World) : Prop := x.i < countK b.length ∧ W.ownsRow M 5 1 (.slice x.A (partK b.length x.i) x.c) (partK b.length x.i) (cells (chunkK b x.i))
theorem KEl.put {M : Nat} {b : List UInt8} (x : KEl) (W : World) (l : Nat) (o o' : Obj) (h : x.at_ M b W) (hl : W.heap[l]? = some o) (ho : o.isCells = false) : x.at_ M b (W.putObj l o') := ⟨h.1, ownsRow_putObj h.2 o' hl ho⟩
/-- What a round keeps. -/
def KeepsS (L : List Nat) (V V' : World) : Prop := KeepsL L V V' ∧ V.heap.size ≤ V'.heap.size
theorem KeepsS.trans {L : List Nat} {A B C : World} (h : KeepsS L A B) (k : KeepsS L B C) : KeepsS L A C := ⟨h.1.trans k.1, Nat.le_trans h.2 k.2⟩
theorem KeepsS.put {L : List Nat} {w : World} (hL : ∀ k ∈ L, k < w.heap.size) (W : World) (l : Nat) (o : Obj) (hl : w.heap.size ≤ l) : KeepsS L W (W.putObj l o) :=
  ⟨fun k hk => World.putObj_heap_other (by have := hL k hk; omega), by simp⟩
/-- The next one lies there. -/
def KEl.in_ (M : Nat) (b : List UInt8) (pre : List KEl) (x : KEl) (W : World) : Prop := x.i = pre.length ∧ x.at_ M b W
def allK (n : Nat) (ys : List KEl) : Prop := ys.map (·.i) = List.range (countK n)
theorem own_grown {w w' : World} {base : Nat} {e : TypeId} {size : Nat} {v : Value} {n : Nat} {xs : List Value} (h : w.ownsRow base e size v n xs) {row : Option Nat} (hg : w.grownBy w' row) (hr : row = none) : w'.ownsRow base e size v n xs :=
  h.kept hg (by subst hr; cases hv : v.ownBlock <;> simp)

set_option maxRecDepth 100000 in
set_option maxHeartbeats 4000000 in
theorem kiter_in (l a c M : Nat) (A : Option Addr) (b : List UInt8) (J : List KEl → World → Prop)
    (hY : ∀ pre x V, J pre V → KEl.in_ M b pre x V → pre.length < countK b.length → YieldAt Fence.wide 1 Tryd.prog l (x.enc b.length) V fun e V' => e = .returned (.bool true) ∧ J (pre ++ [x]) V' ∧ KeepsS (tblk a A) V V')
    (W : World) (hJ : AbidesFrom W.heap.size J) (hI : TextAt W a A c b) (hM : M ≤ W.heap.size) (h0 : J [] W) :
    CallsIn Fence.wide 2 Tryd.prog 25 #[.func (.yield l) #[] #[], .pointer (some ⟨a, 0, none⟩)] W fun e W' => (∃ v, e = .returned v) ∧ ∃ ys, allK b.length ys ∧ J ys W' := by
  have hle := hI.le
  have HI := Lib.hid hI
  have cA := hI.box.cell
  obtain ⟨n, hn⟩ : ∃ n, b.length = n := ⟨_, rfl⟩
  have Hn := Lib.hid hn
  rw [hn] at cA hle
  obtain ⟨m, hm⟩ : ∃ m, countK n = m := ⟨_, rfl⟩
  have Hm := Lib.hid hm
  have hmb : m ≤ 1000 := by rw [← hm]; unfold countK; omega
  have hcnt := fun V : World => kcount_any (n : Int) V (by omega) (by omega)
  simp only [Int.toNat_natCast, hm] at hcnt
  clear hn hm hI
  refine callsIn_of_wp Tryd.func25 rfl trivial ?_ rfl
  simp only [Tryd.ntmps25, List.size_toArray, List.length_cons, List.length_nil, Nat.reduceAdd, Nat.reduceSub, Array.replicate_succ, Array.replicate_zero, List.push_toArray, List.append_toArray, List.nil_append, List.cons_append]
  gi_wp2_with (refine ⟨trivial, ?_⟩; gi_at_call 11; refine (callsIn_wide.2 (hcnt W)).mono ?_; rintro e w1 ⟨rfl, rfl⟩)
  gi_loopw [8] (fun i wr => ∃ (k : Nat) (pre : List KEl), k ≤ m ∧ i = .int .i64 (k : Int) ∧ Hid (pre.map (·.i) = List.range k) ∧ J pre wr ∧ Hid (KeepsL (tblk a A) W wr) ∧ Hid (W.heap.size ≤ wr.heap.size))
    (fun i _ => m - (intOf i).toNat)
  case atStart => exact ⟨0, [], Nat.zero_le _, rfl, rfl, h0, KeepsL.refl _ _, Nat.le_refl _⟩
  case round =>
    obtain ⟨k, pre, hk, rfl, Hp, hJ0, HK, HS⟩ := hrel
    have hIr := HI.out.keeps HK.out
    by_cases hlt : k < m
    · have hpl : pre.length < countK b.length := by
        have := congrArg List.length Hp.out
        rw [List.length_map, List.length_range] at this
        rw [Hn.out, Hm.out]
        omega
      have hkb : k < countK b.length := by rw [Hn.out, Hm.out]; exact hlt
      have hkl : k * 256 < n := by have := countK_lt.1 hkb; rwa [Hn.out] at this
      have Hr := Lib.hid hIr.row
      rw [Hn.out] at Hr
      obtain ⟨g, c', hv, hnc, hcm, hg0, hglt⟩ := own_form Hr.out (by omega)
      injection hv with e1 e2 e3
      subst e1 e3
      have cA2 := hIr.box.cell
      rw [Hn.out] at cA2
      have hJd : J pre wr.drew := hJ pre wr wr.drew none hJ0 ⟨rfl, rfl, rfl, Nat.le_refl _, fun _ _ _ => rfl⟩ (by simp)
      gi_wp2
      obtain ⟨p, hp⟩ : ∃ p, partK n k = p := ⟨_, rfl⟩
      have hp1 : 1 ≤ p := by rw [← hp]; have := partK_pos hkb; rw [Hn.out] at this; omega
      have hp2 : p ≤ 256 := by rw [← hp]; exact partK_le _ _
      have hp3 : k * 256 + p ≤ n := by rw [← hp]; unfold partK; omega
      have hpart : ∀ V : World, Calls Tryd.prog 13 #[.int .i64 (n : Int), .int .i64 (k : Int)] V fun e w' => e = .returned (.int .i64 (p : Int)) ∧ V = w' := by
        intro V
        have h := kpart_any (n : Int) (k : Int) V (by omega) (by omega) (by omega) (by omega)
        have e0 : partI (n : Int) (k : Int) = (p : Int) := by unfold partI; rw [if_neg (by omega), Int.toNat_natCast, Int.toNat_natCast, hp]
        rw [e0] at h
        exact h
      have hck : ¬ c = k * 256 := by omega
      have hlp : (chunkK b k).length = p := by rw [chunkK_length, Hn.out, hp]
      have hL : Lies wr.drew wr.drew.heap.size (some ⟨g, k * 256, none⟩) (chunkK b k) := by
        obtain ⟨A2, c2, hv2, h2, h3, h4, hl⟩ := Lies.of_own Hr.out
        injection hv2 with e1
        subst e1
        have h := (hl.drop (k := k * 256) (c := c) (by rw [← h2]; exact hnc)).take 256
        rw [if_neg hck] at h
        simp only [Option.map_some, Addr.add_lit, Nat.zero_add] at h
        exact h
      have Hlp := Lib.hid hlp
      have Hhp := Lib.hid hp
      have hi1 : (k : Int) * 256 + (p : Int) ≤ (c : Int) := by omega
      have hi2 : ((k : Int) * 256 + (p : Int)).toNat - k * 256 = p := by omega
      have hi3 : ((k : Int) * 256).toNat = k * 256 := by omega
      have hwr : IntKind.i64.wrap ((k : Int) * 256 + (p : Int)) = (k : Int) * 256 + (p : Int) := IntWalk.i64_in _ (by unfold maxLen at hcm; omega)
      have hs0 : 0 ≤ (k : Int) * 256 + (p : Int) := by omega
      have hs1 : 0 ≤ (k : Int) * 256 := by omega
      have hs2 : (k : Int) * 256 ≤ max ((k : Int) * 256 + (p : Int)) 0 := Int.le_trans (by omega) (Int.le_max_left _ _)
      have hsW := HS.out
      have yields : ∀ (w1 : World) (A' : Option Addr) (c' : Nat), w1.ownsRow wr.drew.heap.size 5 1 (.slice A' p c') p (cells (chunkK b k)) → Below wr.drew.heap.size wr.drew w1 →
          ∃ fn tmps assign body, (Instr.yield l #[.int .i64 (k : Int), .slice A' p c']).run Tryd.prog w1 = .ok (.round l fn tmps assign body) w1 ∧ RoundIn Fence.wide 1 Tryd.prog l fn tmps assign body w1 (fun e V' => e = .returned (.bool true) ∧ J (pre ++ [⟨k, A', c'⟩]) V' ∧ KeepsS (tblk a (some ⟨g, 0, none⟩)) w1 V') ∧
            KeepsL (tblk a (some ⟨g, 0, none⟩)) W w1 ∧ W.heap.size ≤ w1.heap.size ∧ Hid ((pre ++ [(⟨k, A', c'⟩ : KEl)]).map (·.i) = List.range (k + 1)) := by
        intro w1 A' c' hr1 hb1
        have hJ1 : J pre w1 := hJ pre wr.drew w1 none hJd (grown_of_below hb1 none) (by simp)
        have hwsz : wr.drew.heap.size = wr.heap.size := rfl
        have hr2 := own_rebase (base' := M) hr1 (fun j q => by have := own_ge hr1 j q; omega)
        obtain ⟨fn, tmps, assign, body, hy, hR⟩ := hY pre ⟨k, A', c'⟩ w1 hJ1 ⟨by have := congrArg List.length Hp.out; rw [List.length_map, List.length_range] at this; exact this.symm, hkb, by show w1.ownsRow M 5 1 (.slice A' (partK b.length k) c') (partK b.length k) _; rw [Hn.out, hp]; exact hr2⟩ hpl
        have he : (⟨k, A', c'⟩ : KEl).enc b.length = #[.int .i64 (k : Int), .slice A' p c'] := by show #[_, Value.slice A' (partK b.length k) c'] = _; rw [Hn.out, hp]
        rw [he] at hy
        refine ⟨fn, tmps, assign, body, hy, hR, HK.out.trans (fun j hj => hb1.block j (hIr.lt j hj)), Nat.le_trans HS.out hb1.size, ?_⟩
        show _ = _
        rw [List.map_append, Hp.out, List.range_succ]
        rfl
      clear hlp hp HK HS hJ0 h0 HI cA
      refine wpIn_region_any (by kernel_rfl) ?_
      change wpAnyIn _ _ _ _ _ _ _ _ _ (World.drew _)
      have cA3 : wr.drew.cell? ⟨a, 0, none⟩ = some (.slice (some ⟨g, 0, none⟩) n c) := cA2
      generalize wr.drew = wd at *
      refine wpAnyIn_take (i := 0) (v := ?_) rfl rfl (by kernel_rfl) (by kernel_rfl) (by kernel_rfl) (fun _ _ _ h => h) ⟨Or.inl ⟨by rfl, ?_⟩, fun _ => rfl⟩ ?_
      rotate_left
      · intro V; go_simp; try with_reducible rfl
      try simp only [Act.put, List.setIfInBounds_toArray, List.set_cons_zero, List.set_cons_succ]
      refine wpAnyIn_take (i := 1) (v := ?_) rfl rfl (by kernel_rfl) (by kernel_rfl) (by kernel_rfl) (fun _ _ _ h => h) ⟨Or.inl ⟨by rfl, ?_⟩, fun _ => rfl⟩ ?_
      rotate_left
      · intro V; go_simp; try with_reducible rfl
      try simp only [Act.put, List.setIfInBounds_toArray, List.set_cons_zero, List.set_cons_succ]
      refine wpAnyIn_take (i := 3) (v := ?_) rfl rfl (by kernel_rfl) (by kernel_rfl) (by kernel_rfl) (fun _ _ _ h => h) ⟨Or.inl ⟨by rfl, ?_⟩, fun _ => rfl⟩ ?_
      rotate_left
      · intro V; go_simp; try with_reducible rfl
      try simp only [Act.put, List.setIfInBounds_toArray, List.set_cons_zero, List.set_cons_succ]
      refine wpAnyIn_take (i := 4) (v := ?_) rfl rfl (by kernel_rfl) (by kernel_rfl) (by kernel_rfl) (fun _ _ _ h => h) ⟨Or.inl ⟨by rfl, ?_⟩, fun _ => rfl⟩ ?_
      rotate_left
      · intro V; go_simp; try with_reducible rfl
      try simp only [Act.put, List.setIfInBounds_toArray, List.set_cons_zero, List.set_cons_succ]
      refine wpAnyIn_take (i := 7) (v := ?_) rfl rfl (by kernel_rfl) (by kernel_rfl) (by kernel_rfl) (fun _ _ _ h => h) ⟨Or.inl ⟨by rfl, ?_⟩, fun _ => rfl⟩ ?_
      rotate_left
      · intro V; go_simp; try with_reducible rfl
      try simp only [Act.put, List.setIfInBounds_toArray, List.set_cons_zero, List.set_cons_succ]
      refine wpAnyIn_ready (rs := [2, 5]) (by kernel_rfl) (by simp) ?_
      refine AllReadyIn.cons (o := ⟨_, _, _, _, _, _⟩) rfl (fun K hK => ?_) ?_
      · skip
        go_simp
        refine hK _ _ ?_
        clear hK K
        try simp only [Act.put, List.setIfInBounds_toArray, List.set_cons_zero, List.set_cons_succ]
        refine wpAnyIn_ready (rs := [5]) (by kernel_rfl) (by simp) ?_
        refine AllReadyIn.cons (o := ⟨_, _, _, _, _, _⟩) rfl (fun K hK => ?_) AllReadyIn.nil
        go_simp
        refine hK _ _ ?_
        clear hK K
        try simp only [Act.put, List.setIfInBounds_toArray, List.set_cons_zero, List.set_cons_succ]
        refine wpAnyIn_ready (rs := [6]) (by kernel_rfl) (by simp) ?_
        refine AllReadyIn.cons (o := ⟨_, _, _, _, _, _⟩) rfl (fun K hK => ?_) AllReadyIn.nil
        go_simp
        refine hK _ _ ?_
        clear hK K
        try simp only [Act.put, List.setIfInBounds_toArray, List.set_cons_zero, List.set_cons_succ]
        refine wpAnyIn_ready (rs := [8]) (by kernel_rfl) (by simp) ?_
        refine AllReadyIn.cons (o := ⟨_, _, _, _, _, _⟩) rfl (fun K hK => ?_) AllReadyIn.nil
        go_simp
        refine ⟨trivial, ?_⟩
        gi_at_call 13
        refine (callsIn_wide.2 (hpart _)).mono ?_
        rintro e w1 ⟨rfl, rfl⟩
        refine hK _ _ ?_
        clear hK K
        try simp only [Act.put, List.setIfInBounds_toArray, List.set_cons_zero, List.set_cons_succ]
        refine wpAnyIn_ready (rs := [9]) (by kernel_rfl) (by simp) ?_
        refine AllReadyIn.cons (o := ⟨_, _, _, _, _, _⟩) rfl (fun K hK => ?_) AllReadyIn.nil
        go_simp
        try rw [hwr]
        refine hK _ _ ?_
        clear hK K
        try simp only [Act.put, List.setIfInBounds_toArray, List.set_cons_zero, List.set_cons_succ]
        refine wpAnyIn_ready (rs := [10]) (by kernel_rfl) (by simp) ?_
        refine AllReadyIn.cons (o := ⟨_, _, _, _, _, _⟩) rfl (fun K hK => ?_) AllReadyIn.nil
        go_simp
        refine hK _ _ ?_
        clear hK K
        try simp only [Act.put, List.setIfInBounds_toArray, List.set_cons_zero, List.set_cons_succ]
        refine wpAnyIn_ready (rs := [11]) (by kernel_rfl) (by simp) ?_
        refine AllReadyIn.cons (o := ⟨_, _, _, _, _, _⟩) rfl (fun K hK => ?_) AllReadyIn.nil
        go_simp
        refine ⟨trivial, ?_⟩
        gi_at_call 24
        refine (callsIn_wide.2 (kclone_any _ p _ (chunkK b k) _ _ hL (Nat.le_refl _) Hlp.out.symm (by omega))).mono ?_
        rintro e w1 ⟨A', c', rfl, hr1, hb1⟩
        obtain ⟨fn, tmps, assign, body, hy, hR, HK1, HS1, Hp1⟩ := yields w1 A' c' hr1 hb1
        refine hK _ _ ?_
        clear hK K
        try simp only [Act.put, List.setIfInBounds_toArray, List.set_cons_zero, List.set_cons_succ]
        refine wpAnyIn_ready (rs := [12]) (by kernel_rfl) (by simp) ?_
        refine AllReadyIn.cons (o := ⟨_, _, _, _, _, _⟩) rfl (fun K hK => ?_) AllReadyIn.nil
        go_simp
        refine hR.mono ?_
        rintro e W3 ⟨rfl, hJ3, hk3⟩
        refine hK _ _ ?_
        clear hK K
        try simp only [Act.put, List.setIfInBounds_toArray, List.set_cons_zero, List.set_cons_succ]
        refine wpAnyIn_ready (rs := [13]) (by kernel_rfl) (by simp) ?_
        refine AllReadyIn.cons (o := ⟨_, _, _, _, _, _⟩) rfl (fun K hK => ?_) AllReadyIn.nil
        go_simp
        refine hK _ _ ?_
        clear hK K
        try simp only [Act.put, List.setIfInBounds_toArray, List.set_cons_zero, List.set_cons_succ]
        refine wpAnyIn_done (by kernel_rfl) ?_ _
        gi_wp2
        go_roundw
        case rel => exact ⟨k + 1, _, by omega, by go_num, Hp1, hJ3, HK1.trans hk3.1, Nat.le_trans HS1 hk3.2⟩
        case measure => simp [intOf]; omega
      refine AllReadyIn.cons (o := ⟨_, _, _, _, _, _⟩) rfl (fun K hK => ?_) AllReadyIn.nil
      go_simp
      refine hK _ _ ?_
      clear hK K
      try simp only [Act.put, List.setIfInBounds_toArray, List.set_cons_zero, List.set_cons_succ]
      refine wpAnyIn_ready (rs := [2, 6]) (by kernel_rfl) (by simp) ?_
      refine AllReadyIn.cons (o := ⟨_, _, _, _, _, _⟩) rfl (fun K hK => ?_) ?_
      · skip
        go_simp
        refine hK _ _ ?_
        clear hK K
        try simp only [Act.put, List.setIfInBounds_toArray, List.set_cons_zero, List.set_cons_succ]
        refine wpAnyIn_ready (rs := [6]) (by kernel_rfl) (by simp) ?_
        refine AllReadyIn.cons (o := ⟨_, _, _, _, _, _⟩) rfl (fun K hK => ?_) AllReadyIn.nil
        go_simp
        refine hK _ _ ?_
        clear hK K
        try simp only [Act.put, List.setIfInBounds_toArray, List.set_cons_zero, List.set_cons_succ]
        refine wpAnyIn_ready (rs := [8]) (by kernel_rfl) (by simp) ?_
        refine AllReadyIn.cons (o := ⟨_, _, _, _, _, _⟩) rfl (fun K hK => ?_) AllReadyIn.nil
        go_simp
        refine ⟨trivial, ?_⟩
        gi_at_call 13
        refine (callsIn_wide.2 (hpart _)).mono ?_
        rintro e w1 ⟨rfl, rfl⟩
        refine hK _ _ ?_
        clear hK K
        try simp only [Act.put, List.setIfInBounds_toArray, List.set_cons_zero, List.set_cons_succ]
        refine wpAnyIn_ready (rs := [9]) (by kernel_rfl) (by simp) ?_
        refine AllReadyIn.cons (o := ⟨_, _, _, _, _, _⟩) rfl (fun K hK => ?_) AllReadyIn.nil
        go_simp
        try rw [hwr]
        refine hK _ _ ?_
        clear hK K
        try simp only [Act.put, List.setIfInBounds_toArray, List.set_cons_zero, List.set_cons_succ]
        refine wpAnyIn_ready (rs := [10]) (by kernel_rfl) (by simp) ?_
        refine AllReadyIn.cons (o := ⟨_, _, _, _, _, _⟩) rfl (fun K hK => ?_) AllReadyIn.nil
        go_simp
        refine hK _ _ ?_
        clear hK K
        try simp only [Act.put, List.setIfInBounds_toArray, List.set_cons_zero, List.set_cons_succ]
        refine wpAnyIn_ready (rs := [11]) (by kernel_rfl) (by simp) ?_
        refine AllReadyIn.cons (o := ⟨_, _, _, _, _, _⟩) rfl (fun K hK => ?_) AllReadyIn.nil
        go_simp
        refine ⟨trivial, ?_⟩
        gi_at_call 24
        refine (callsIn_wide.2 (kclone_any _ p _ (chunkK b k) _ _ hL (Nat.le_refl _) Hlp.out.symm (by omega))).mono ?_
        rintro e w1 ⟨A', c', rfl, hr1, hb1⟩
        obtain ⟨fn, tmps, assign, body, hy, hR, HK1, HS1, Hp1⟩ := yields w1 A' c' hr1 hb1
        refine hK _ _ ?_
        clear hK K
        try simp only [Act.put, List.setIfInBounds_toArray, List.set_cons_zero, List.set_cons_succ]
        refine wpAnyIn_ready (rs := [12]) (by kernel_rfl) (by simp) ?_
        refine AllReadyIn.cons (o := ⟨_, _, _, _, _, _⟩) rfl (fun K hK => ?_) AllReadyIn.nil
        go_simp
        refine hR.mono ?_
        rintro e W3 ⟨rfl, hJ3, hk3⟩
        refine hK _ _ ?_
        clear hK K
        try simp only [Act.put, List.setIfInBounds_toArray, List.set_cons_zero, List.set_cons_succ]
        refine wpAnyIn_ready (rs := [13]) (by kernel_rfl) (by simp) ?_
        refine AllReadyIn.cons (o := ⟨_, _, _, _, _, _⟩) rfl (fun K hK => ?_) AllReadyIn.nil
        go_simp
        refine hK _ _ ?_
        clear hK K
        try simp only [Act.put, List.setIfInBounds_toArray, List.set_cons_zero, List.set_cons_succ]
        refine wpAnyIn_done (by kernel_rfl) ?_ _
        gi_wp2
        go_roundw
        case rel => exact ⟨k + 1, _, by omega, by go_num, Hp1, hJ3, HK1.trans hk3.1, Nat.le_trans HS1 hk3.2⟩
        case measure => simp [intOf]; omega
      refine AllReadyIn.cons (o := ⟨_, _, _, _, _, _⟩) rfl (fun K hK => ?_) AllReadyIn.nil
      go_simp
      refine hK _ _ ?_
      clear hK K
      try simp only [Act.put, List.setIfInBounds_toArray, List.set_cons_zero, List.set_cons_succ]
      refine wpAnyIn_ready (rs := [2, 8]) (by kernel_rfl) (by simp) ?_
      refine AllReadyIn.cons (o := ⟨_, _, _, _, _, _⟩) rfl (fun K hK => ?_) ?_
      · skip
        go_simp
        refine hK _ _ ?_
        clear hK K
        try simp only [Act.put, List.setIfInBounds_toArray, List.set_cons_zero, List.set_cons_succ]
        refine wpAnyIn_ready (rs := [8]) (by kernel_rfl) (by simp) ?_
        refine AllReadyIn.cons (o := ⟨_, _, _, _, _, _⟩) rfl (fun K hK => ?_) AllReadyIn.nil
        go_simp
        refine ⟨trivial, ?_⟩
        gi_at_call 13
        refine (callsIn_wide.2 (hpart _)).mono ?_
        rintro e w1 ⟨rfl, rfl⟩
        refine hK _ _ ?_
        clear hK K
        try simp only [Act.put, List.setIfInBounds_toArray, List.set_cons_zero, List.set_cons_succ]
        refine wpAnyIn_ready (rs := [9]) (by kernel_rfl) (by simp) ?_
        refine AllReadyIn.cons (o := ⟨_, _, _, _, _, _⟩) rfl (fun K hK => ?_) AllReadyIn.nil
        go_simp
        try rw [hwr]
        refine hK _ _ ?_
        clear hK K
        try simp only [Act.put, List.setIfInBounds_toArray, List.set_cons_zero, List.set_cons_succ]
        refine wpAnyIn_ready (rs := [10]) (by kernel_rfl) (by simp) ?_
        refine AllReadyIn.cons (o := ⟨_, _, _, _, _, _⟩) rfl (fun K hK => ?_) AllReadyIn.nil
        go_simp
        refine hK _ _ ?_
        clear hK K
        try simp only [Act.put, List.setIfInBounds_toArray, List.set_cons_zero, List.set_cons_succ]
        refine wpAnyIn_ready (rs := [11]) (by kernel_rfl) (by simp) ?_
        refine AllReadyIn.cons (o := ⟨_, _, _, _, _, _⟩) rfl (fun K hK => ?_) AllReadyIn.nil
        go_simp
        refine ⟨trivial, ?_⟩
        gi_at_call 24
        refine (callsIn_wide.2 (kclone_any _ p _ (chunkK b k) _ _ hL (Nat.le_refl _) Hlp.out.symm (by omega))).mono ?_
        rintro e w1 ⟨A', c', rfl, hr1, hb1⟩
        obtain ⟨fn, tmps, assign, body, hy, hR, HK1, HS1, Hp1⟩ := yields w1 A' c' hr1 hb1
        refine hK _ _ ?_
        clear hK K
        try simp only [Act.put, List.setIfInBounds_toArray, List.set_cons_zero, List.set_cons_succ]
        refine wpAnyIn_ready (rs := [12]) (by kernel_rfl) (by simp) ?_
        refine AllReadyIn.cons (o := ⟨_, _, _, _, _, _⟩) rfl (fun K hK => ?_) AllReadyIn.nil
        go_simp
        refine hR.mono ?_
        rintro e W3 ⟨rfl, hJ3, hk3⟩
        refine hK _ _ ?_
        clear hK K
        try simp only [Act.put, List.setIfInBounds_toArray, List.set_cons_zero, List.set_cons_succ]
        refine wpAnyIn_ready (rs := [13]) (by kernel_rfl) (by simp) ?_
        refine AllReadyIn.cons (o := ⟨_, _, _, _, _, _⟩) rfl (fun K hK => ?_) AllReadyIn.nil
        go_simp
        refine hK _ _ ?_
        clear hK K
        try simp only [Act.put, List.setIfInBounds_toArray, List.set_cons_zero, List.set_cons_succ]
        refine wpAnyIn_done (by kernel_rfl) ?_ _
        gi_wp2
        go_roundw
        case rel => exact ⟨k + 1, _, by omega, by go_num, Hp1, hJ3, HK1.trans hk3.1, Nat.le_trans HS1 hk3.2⟩
        case measure => simp [intOf]; omega
      refine AllReadyIn.cons (o := ⟨_, _, _, _, _, _⟩) rfl (fun K hK => ?_) AllReadyIn.nil
      go_simp
      refine ⟨trivial, ?_⟩
      gi_at_call 13
      refine (callsIn_wide.2 (hpart _)).mono ?_
      rintro e w1 ⟨rfl, rfl⟩
      refine hK _ _ ?_
      clear hK K
      try simp only [Act.put, List.setIfInBounds_toArray, List.set_cons_zero, List.set_cons_succ]
      refine wpAnyIn_ready (rs := [2, 9]) (by kernel_rfl) (by simp) ?_
      refine AllReadyIn.cons (o := ⟨_, _, _, _, _, _⟩) rfl (fun K hK => ?_) ?_
      · skip
        go_simp
        refine hK _ _ ?_
        clear hK K
        try simp only [Act.put, List.setIfInBounds_toArray, List.set_cons_zero, List.set_cons_succ]
        refine wpAnyIn_ready (rs := [9]) (by kernel_rfl) (by simp) ?_
        refine AllReadyIn.cons (o := ⟨_, _, _, _, _, _⟩) rfl (fun K hK => ?_) AllReadyIn.nil
        go_simp
        try rw [hwr]
        refine hK _ _ ?_
        clear hK K
        try simp only [Act.put, List.setIfInBounds_toArray, List.set_cons_zero, List.set_cons_succ]
        refine wpAnyIn_ready (rs := [10]) (by kernel_rfl) (by simp) ?_
        refine AllReadyIn.cons (o := ⟨_, _, _, _, _, _⟩) rfl (fun K hK => ?_) AllReadyIn.nil
        go_simp
        refine hK _ _ ?_
        clear hK K
        try simp only [Act.put, List.setIfInBounds_toArray, List.set_cons_zero, List.set_cons_succ]
        refine wpAnyIn_ready (rs := [11]) (by kernel_rfl) (by simp) ?_
        refine AllReadyIn.cons (o := ⟨_, _, _, _, _, _⟩) rfl (fun K hK => ?_) AllReadyIn.nil
        go_simp
        refine ⟨trivial, ?_⟩
        gi_at_call 24
        refine (callsIn_wide.2 (kclone_any _ p _ (chunkK b k) _ _ hL (Nat.le_refl _) Hlp.out.symm (by omega))).mono ?_
        rintro e w1 ⟨A', c', rfl, hr1, hb1⟩
        obtain ⟨fn, tmps, assign, body, hy, hR, HK1, HS1, Hp1⟩ := yields w1 A' c' hr1 hb1
        refine hK _ _ ?_
        clear hK K
        try simp only [Act.put, List.setIfInBounds_toArray, List.set_cons_zero, List.set_cons_succ]
        refine wpAnyIn_ready (rs := [12]) (by kernel_rfl) (by simp) ?_
        refine AllReadyIn.cons (o := ⟨_, _, _, _, _, _⟩) rfl (fun K hK => ?_) AllReadyIn.nil
        go_simp
        refine hR.mono ?_
        rintro e W3 ⟨rfl, hJ3, hk3⟩
        refine hK _ _ ?_
        clear hK K
        try simp only [Act.put, List.setIfInBounds_toArray, List.set_cons_zero, List.set_cons_succ]
        refine wpAnyIn_ready (rs := [13]) (by kernel_rfl) (by simp) ?_
        refine AllReadyIn.cons (o := ⟨_, _, _, _, _, _⟩) rfl (fun K hK => ?_) AllReadyIn.nil
        go_simp
        refine hK _ _ ?_
        clear hK K
        try simp only [Act.put, List.setIfInBounds_toArray, List.set_cons_zero, List.set_cons_succ]
        refine wpAnyIn_done (by kernel_rfl) ?_ _
        gi_wp2
        go_roundw
        case rel => exact ⟨k + 1, _, by omega, by go_num, Hp1, hJ3, HK1.trans hk3.1, Nat.le_trans HS1 hk3.2⟩
        case measure => simp [intOf]; omega
      refine AllReadyIn.cons (o := ⟨_, _, _, _, _, _⟩) rfl (fun K hK => ?_) AllReadyIn.nil
      go_simp
      try rw [hwr]
      refine hK _ _ ?_
      clear hK K
      try simp only [Act.put, List.setIfInBounds_toArray, List.set_cons_zero, List.set_cons_succ]
      refine wpAnyIn_ready (rs := [2]) (by kernel_rfl) (by simp) ?_
      refine AllReadyIn.cons (o := ⟨_, _, _, _, _, _⟩) rfl (fun K hK => ?_) AllReadyIn.nil
      go_simp
      refine hK _ _ ?_
      clear hK K
      try simp only [Act.put, List.setIfInBounds_toArray, List.set_cons_zero, List.set_cons_succ]
      refine wpAnyIn_ready (rs := [10]) (by kernel_rfl) (by simp) ?_
      refine AllReadyIn.cons (o := ⟨_, _, _, _, _, _⟩) rfl (fun K hK => ?_) AllReadyIn.nil
      go_simp
      refine hK _ _ ?_
      clear hK K
      try simp only [Act.put, List.setIfInBounds_toArray, List.set_cons_zero, List.set_cons_succ]
      refine wpAnyIn_ready (rs := [11]) (by kernel_rfl) (by simp) ?_
      refine AllReadyIn.cons (o := ⟨_, _, _, _, _, _⟩) rfl (fun K hK => ?_) AllReadyIn.nil
      go_simp
      refine ⟨trivial, ?_⟩
      gi_at_call 24
      refine (callsIn_wide.2 (kclone_any _ p _ (chunkK b k) _ _ hL (Nat.le_refl _) Hlp.out.symm (by omega))).mono ?_
      rintro e w1 ⟨A', c', rfl, hr1, hb1⟩
      obtain ⟨fn, tmps, assign, body, hy, hR, HK1, HS1, Hp1⟩ := yields w1 A' c' hr1 hb1
      refine hK _ _ ?_
      clear hK K
      try simp only [Act.put, List.setIfInBounds_toArray, List.set_cons_zero, List.set_cons_succ]
      refine wpAnyIn_ready (rs := [12]) (by kernel_rfl) (by simp) ?_
      refine AllReadyIn.cons (o := ⟨_, _, _, _, _, _⟩) rfl (fun K hK => ?_) AllReadyIn.nil
      go_simp
      refine hR.mono ?_
      rintro e W3 ⟨rfl, hJ3, hk3⟩
      refine hK _ _ ?_
      clear hK K
      try simp only [Act.put, List.setIfInBounds_toArray, List.set_cons_zero, List.set_cons_succ]
      refine wpAnyIn_ready (rs := [13]) (by kernel_rfl) (by simp) ?_
      refine AllReadyIn.cons (o := ⟨_, _, _, _, _, _⟩) rfl (fun K hK => ?_) AllReadyIn.nil
      go_simp
      refine hK _ _ ?_
      clear hK K
      try simp only [Act.put, List.setIfInBounds_toArray, List.set_cons_zero, List.set_cons_succ]
      refine wpAnyIn_done (by kernel_rfl) ?_ _
      gi_wp2
      go_roundw
      case rel => exact ⟨k + 1, _, by omega, by go_num, Hp1, hJ3, HK1.trans hk3.1, Nat.le_trans HS1 hk3.2⟩
      case measure => simp [intOf]; omega
    · obtain rfl : k = m := by omega
      gi_wp2
      go_end0
      exact ⟨⟨_, rfl⟩, _, by unfold allK; rw [Hn.out, Hm.out]; exact Hp.out, hJ0⟩
theorem kiter_tells (a c M : Nat) (A : Option Addr) (b : List UInt8) (w : World) (hI : TextAt w a A c b) (hM : M ≤ w.heap.size) :
    TellsR 2 Tryd.prog 25 #[.pointer (some ⟨a, 0, none⟩)] (KEl.enc b.length) (KEl.in_ M b) (KeepsS (tblk a A)) (allK b.length) (countK b.length) w :=
  fun l J W hW hJ hY h0 => kiter_in l a c M A b J hY W hJ (hI.below hW hI.lt) (Nat.le_trans hM hW.size) h0

set_option maxRecDepth 100000 in
set_option maxHeartbeats 1000000 in
/-- All: what it answers holds the text as it is now. -/
theorem kall_any (A : Option Addr) (n c : Nat) (b : List UInt8) (w : World) (B : Nat) (h : Lies w B A b) (hB : B ≤ w.heap.size) (hn : n = b.length) (hm : n ≤ 100000) :
    Calls Tryd.prog 14 #[.slice A n c] w fun e w' => ∃ a A' c', e = .returned (.func (.func 25) #[] #[.pointer (some ⟨a, 0, none⟩)]) ∧ TextAt w' a A' c' b ∧ (∀ k ∈ tblk a A', w.heap.size ≤ k) ∧ Below w.heap.size w w' := by
  have Hn := Lib.hid hn
  have H := Lib.hid h
  clear hn h
  go_enter Tryd.func14, Tryd.ntmps14
  go_wp2_with fail
  refine (kclone_any A n c b w B H.out hB Hn.out (by omega)).mono ?_
  rintro e w1 ⟨A', c', rfl, hr1, hb1⟩
  go_wp2_with fail
  go_ret
  have ho : One (w1.alloc (.cells #[.slice A' n c'] 22)) w1.heap.size (.slice A' n c') 22 := One.new w1 _ _
  have hr2 := own_rebase (base' := 0) (hr1.alloc (.cells #[.slice A' n c'] 22)) (fun _ _ => Nat.zero_le _)
  have hs1 := hb1.size
  rw [Hn.out] at ho hr2 ⊢
  refine ⟨w1.heap.size, A', c', rfl, ⟨ho, hr2, by rw [← Hn.out]; exact hm⟩, ?_, hb1.alloc hs1 _⟩
  intro k hk
  simp only [tblk, List.mem_cons, Option.mem_toList, Option.mem_def, Option.map_eq_some_iff] at hk
  rcases hk with rfl | ⟨p, rfl, rfl⟩
  · exact hs1
  · exact own_ge hr1 p.block rfl
end Go.Proofs.YtmcbpifkclhfiaaDoor
