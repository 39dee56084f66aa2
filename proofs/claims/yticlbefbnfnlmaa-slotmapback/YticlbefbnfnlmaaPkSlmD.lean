/-
  Layer 10: the contracts of All and of the iterator that it answers.
  Layer 10: the contracts of Count, First and Last.
-/
import Derived.Test.YticlbefbnfnlmaaPkSlmB
import Derived.Test.YticlbefbnfnlmaaPkRangeM
namespace Go.Proofs.Yticlbefbnfnlmaa
open Go.RowKit Go.Shelf
set_option linter.unusedVariables false
attribute [local go_sem] Oper.semAt_some

/-- What an iterator holds: the box of its states, the box of the state that it looks for, the states. -/
structure IterAt (w : World) (a b g c : Nat) (what : Int) (ss : List UInt8) : Prop where
  st : One w a (.slice (some ⟨g, 0, none⟩) ss.length c) 41
  wh : One w b (.int .i64 what) 3
  row : w.ownsRow 0 5 1 (.slice (some ⟨g, 0, none⟩) ss.length c) ss.length (cells ss)
  le : ss.length ≤ 200
section
variable {w w' : World} {a b g c : Nat} {what : Int} {ss : List UInt8}
theorem IterAt.keeps (h : IterAt w a b g c what ss) (hk : KeepsL [a, b, g] w w') : IterAt w' a b g c what ss :=
  ⟨(hk a (by simp)).trans h.st, (hk b (by simp)).trans h.wh, ⟨h.row.1, by
    rcases h.row.2 with hn | ⟨g', cap, cur, hv, hb, hg, rest⟩
    · exact .inl hn
    · injection hv with e1 e2 e3
      injection e1 with e1
      injection e1 with e1
      subst e1 e3
      exact .inr ⟨g, c, cur, rfl, hb, (hk g (by simp)).trans hg, rest⟩⟩, h.le⟩
theorem IterAt.lt (h : IterAt w a b g c what ss) : ∀ k ∈ [a, b, g], k < w.heap.size := by
  intro k hk
  have h1 := h.st.lt
  have h2 := h.wh.lt
  have h3 := own_lt h.row rfl
  simp only [List.mem_cons, List.not_mem_nil, or_false] at hk
  rcases hk with rfl | rfl | rfl <;> assumption
theorem IterAt.below {B : Nat} (h : IterAt w a b g c what ss) (hB : Below B w w') (hk : ∀ k ∈ [a, b, g], k < B) : IterAt w' a b g c what ss := h.keeps (fun k hm => hB.block k (hk k hm))
theorem IterAt.cell (h : IterAt w a b g c what ss) {i : Nat} (hi : i < ss.length) : w.cell? ⟨g, i, none⟩ = some (.int .u8 ((ss.getD i 0).toNat : Int)) := by
  have h1 := h.row.cells (g := g) rfl i (.int .u8 ((ss.getD i 0).toNat : Int)) (cells_get (by rw [List.getD_eq_getElem?_getD, List.getElem?_eq_getElem hi]; rfl))
  rwa [Addr.add_lit, Nat.zero_add] at h1
end

set_option maxRecDepth 100000 in
set_option maxHeartbeats 2000000 in
theorem siter_in (F : Fence) (n : Nat) (hf : F.fn 32) (hro : F.round = none) (hn : 1 ≤ n) (l a b g c : Nat) (what : Int) (ss : List UInt8) (J Jx : List (Fin ss.length) → World → Prop)
    (hY : ∀ pre x W, J pre W → pre.length < (ofS ss what).length → YieldAt F (n - 1) Try.prog l #[.int .i64 (x.1 : Int)] W fun e W' =>
      (e = .returned (.bool true) ∧ J (pre ++ [x]) W' ∧ KeepsL [a, b, g] W W') ∨ (e = .returned (.bool false) ∧ Jx (pre ++ [x]) W'))
    (W : World) (hI : IterAt W a b g c what ss) (h0 : J [] W) :
    CallsIn F n Try.prog 32 #[.func (.yield l) #[] #[], .pointer (some ⟨a, 0, none⟩), .pointer (some ⟨b, 0, none⟩)] W fun e W' => (∃ v, e = .returned v) ∧
      ((∃ ys, ys.map (·.1) = ofS ss what ∧ J ys W') ∨ (∃ pre, pre.map (·.1) <+: ofS ss what ∧ Jx pre W')) := by
  have hle := hI.le
  have cA := hI.st.cell
  have HI := Lib.hid hI
  refine callsIn_of_wp Try.func32 rfl hf ?_ hro
  simp only [Try.ntmps32, List.size_toArray, List.length_cons, List.length_nil, Nat.reduceAdd, Nat.reduceSub, Array.replicate_succ, Array.replicate_zero, List.push_toArray, List.append_toArray, List.nil_append, List.cons_append]
  gi_wp2
  gi_loopw [8] (fun i wr => ∃ (k : Nat) (pre : List (Fin ss.length)), k ≤ ss.length ∧ i = .int .i64 k ∧ Hid (pre.map (·.1) = ofK ss what k) ∧ J pre wr ∧ Hid (KeepsL [a, b, g] W wr))
    (fun i _ => ss.length - (intOf i).toNat)
  case atStart => exact ⟨0, [], Nat.zero_le _, rfl, rfl, h0, KeepsL.refl _ _⟩
  case round =>
    obtain ⟨k, pre, hk, rfl, Hp, hJ, HK⟩ := hrel
    have hIr := HI.out.keeps HK.out
    by_cases hlt : k < ss.length
    · have hlt' : (k : Int) < (ss.length : Int) := by omega
      have hcx := hIr.cell hlt
      have hwh := hIr.wh.cell
      have Hx := Lib.hid (show isS ss what k = decide (((ss.getD k 0).toNat : Int) = what) from rfl)
      have hb8 : (ss.getD k 0).toNat < 256 := (ss.getD k 0).toNat_lt
      clear cA
      generalize (ss.getD k 0).toNat = x at *
      by_cases hx : (x : Int) = what
      · have Hs : Hid (isS ss what k = true) := by show _ = _; rw [Hx.out, decide_eq_true hx]
        have hb := ofK_below hlt Hs.out
        have hpl : pre.length < (ofS ss what).length := by
          have := congrArg List.length Hp.out
          rw [List.length_map] at this
          omega
        obtain ⟨fn, tmps, assign, body, hy, hR⟩ := hY pre ⟨k, hlt⟩ wr hJ hpl
        have Hp1 : Hid ((pre ++ [(⟨k, hlt⟩ : Fin ss.length)]).map (·.1) = ofK ss what (k + 1)) := by
          show _ = _
          rw [List.map_append, Hp.out, ofK_hit Hs.out]
          rfl
        dsimp only at hy
        subst hx
        gi_wp2
        refine hR.mono ?_
        rintro e W3 (⟨rfl, hJ3, hk3⟩ | ⟨rfl, hJx3⟩)
        · gi_wp2
          go_roundw
          case rel => exact ⟨k + 1, _, by omega, by go_num, Hp1, hJ3, HK.out.trans hk3⟩
          case measure => simp [intOf]; omega
        · gi_wp2
          refine bodyPost_ret (results_none rfl _ _ _) rfl ?_
          exact ⟨⟨_, rfl⟩, .inr ⟨_, by rw [Hp1.out]; exact ofK_prefix ss _ (by omega), hJx3⟩⟩
      · have Hs : Hid (isS ss what k = false) := by show _ = _; rw [Hx.out, decide_eq_false hx]
        have Hp1 : Hid (pre.map (·.1) = ofK ss what (k + 1)) := by show _ = _; rw [Hp.out, ofK_miss Hs.out]
        have hxb : ((x : Int) == what) = false := by simp [hx]
        gi_wp2
        refine ⟨fun _ h => (by cases h), ?_⟩
        gi_wp2
        go_roundw
        case rel => exact ⟨k + 1, _, by omega, by go_num, Hp1, hJ, HK⟩
        case measure => simp [intOf]; omega
    · obtain rfl : k = ss.length := by omega
      gi_wp2
      go_end0
      exact ⟨⟨_, rfl⟩, .inl ⟨_, Hp.out, hJ⟩⟩

theorem siter_stops (F : Fence) (n : Nat) (hf : F.fn 32) (hro : F.round = none) (hn : 1 ≤ n) (a b g c : Nat) (what : Int) (ss : List UInt8) (w : World) (hI : IterAt w a b g c what ss) :
    SeqStopsK F n Try.prog 32 #[.pointer (some ⟨a, 0, none⟩), .pointer (some ⟨b, 0, none⟩)] (fun x : Fin ss.length => #[Value.int .i64 (x.1 : Int)]) (KeepsL [a, b, g]) (fun ys => ys.map (·.1) = ofS ss what) (fun pre => pre.map (·.1) <+: ofS ss what) (ofS ss what).length w :=
  fun l J Jx W hW _ _ hY h0 => siter_in F n hf hro hn l a b g c what ss J Jx hY W (hI.below hW hI.lt) h0

set_option maxRecDepth 100000 in
set_option maxHeartbeats 1000000 in
/-- All: what it answers holds the states as they are now. -/
theorem sall_any (w : World) (b g c : Nat) (ss : List UInt8) (h : MapAt w b g c ss) (what : Int) :
    Calls Try.prog 26 #[.pointer (some ⟨b, 0, none⟩), .int .i64 what] w fun e w' => ∃ a' b' g' c', e = .returned (.func (.func 32) #[] #[.pointer (some ⟨a', 0, none⟩), .pointer (some ⟨b', 0, none⟩)]) ∧ IterAt w' a' b' g' c' what ss ∧ (∀ k ∈ [a', b', g'], w.heap.size ≤ k) ∧ Below w.heap.size w w' := by
  have c0 := h.ptr.cell
  have hb1 : Below w.heap.size w (w.alloc (.cells #[.int .i64 what] 3)) := (Below.refl _ _).alloc (Nat.le_refl _) _
  have c1 := (h.later hb1).ptr.cell
  have h1 := h.later hb1
  have Hh := Lib.hid h1
  have o1 : One (w.alloc (.cells #[.int .i64 what] 3)) w.heap.size (.int .i64 what) 3 := One.new w _ _
  clear h h1
  go_enter Try.func26, Try.ntmps26
  go_wp2_with fail
  refine (clone_u8 _ g _ c ss Hh.out.row Hh.out.le).mono ?_
  rintro e w2 ⟨A', c', rfl, hr2, hb2⟩
  obtain ⟨g', cap', hv, hcap, _, hg1, hg2⟩ := own_form hr2 (by have := Hh.out.pos; omega)
  injection hv with e1 e2 e3
  subst e1 e3
  have o2 := o1.below hb2 (by simp)
  clear c0 c1
  have hs2 := hb2.size
  go_wp2_with fail
  go_ret
  have hs3 : w.heap.size + 1 ≤ w2.heap.size := by simpa using hs2
  refine ⟨w2.heap.size, w.heap.size, g', c', rfl, ⟨One.new w2 _ _, o2.alloc _, own_rebase (base' := 0) (hr2.alloc _) (fun _ _ => Nat.zero_le _), Hh.out.le⟩, ?_, (hb1.trans (hb2.mono (by simp))).alloc (by omega) _⟩
  intro k hk
  simp only [List.mem_cons, List.not_mem_nil, or_false] at hk
  simp at hg1
  omega
end Go.Proofs.Yticlbefbnfnlmaa
namespace Go.Proofs.Yticlbefbnfnlmaa
open Go.RowKit Go.Shelf
set_option linter.unusedVariables false
attribute [local go_sem] Oper.semAt_some

set_option maxRecDepth 100000 in
set_option maxHeartbeats 2000000 in
theorem scount_any (w : World) (b g c : Nat) (ss : List UInt8) (h : MapAt w b g c ss) (what : Int) :
    Calls Try.prog 19 #[.pointer (some ⟨b, 0, none⟩), .int .i64 what] w fun e w' => e = .returned (.int .i64 ((ofS ss what).length : Int)) ∧ Below w.heap.size w w' := by
  have hb1 : Below w.heap.size w (w.alloc (.cells #[.int .i64 0] 3)) := (Below.refl _ _).alloc (Nat.le_refl _) _
  have Hh := Lib.hid (h.later hb1)
  have o1 : One (w.alloc (.cells #[.int .i64 0] 3)) w.heap.size (.int .i64 0) 3 := One.new w _ _
  have hlen := ofS_length ss what
  have hle := h.le
  clear h
  refine calls_of_wp_marks Try.func19 rfl ?_
  simp only [Try.ntmps19, List.size_toArray, List.length_cons, List.length_nil, Nat.reduceAdd, Nat.reduceSub, Array.replicate_succ, Array.replicate_zero, List.push_toArray, List.append_toArray, List.nil_append, List.cons_append]
  go_wp2_with fail
  refine (sall_any _ b g c ss Hh.out what).mono ?_
  rintro e w2 ⟨a', b', g', c', rfl, hI, hlt, hb2⟩
  have o2 := o1.below hb2 (by simp)
  have hB2 : Below w.heap.size w w2 := hb1.trans (hb2.mono (by simp))
  have hs2 : w.heap.size + 1 ≤ w2.heap.size := by simpa using hb2.size
  have hlt2 : ∀ k ∈ [a', b', g'], w.heap.size + 1 ≤ k := fun k hk => by simpa using hlt k hk
  clear hb1 hb2 o1 hlt
  generalize hN : w.heap.size = N at *
  go_wp2_with fail
  refine wp_rangeFunc ?_
  refine wpIn_rangeFunc_ownG (F := Fence.wide) rfl (by omega) (gf := 32) (lb := #[.pointer (some ⟨a', 0, none⟩), .pointer (some ⟨b', 0, none⟩)]) rfl trivial (enters_of Try.func32 (by kernel_rfl) rfl)
    (siter_stops Fence.wide 2 trivial rfl (by omega) a' b' g' c' what ss w2 hI) (fun h k => h.trans k) (keepsL_b hI.lt) (Below.refl _ _) (fun _ => rfl)
    (fun pre W => One W N (.int .i64 (pre.length : Int)) 3 ∧ Below N w W ∧ w2.heap.size ≤ W.heap.size)
    (fun _ _ _ => False)
    (ownFrom_stays (fun s W W' h hs => ⟨hs.one h.1, hs.bel (by omega) (by omega) h.2.1, Nat.le_trans h.2.2 hs.size⟩))
    (fun _ _ _ _ _ hs _ _ => hs)
    ⟨o2, hB2, Nat.le_refl _⟩
    (fun x => { tmps := #[.pointer (some ⟨b, 0, none⟩), .int .i64 what, undef, undef, .int .i64 0, .pointer (some ⟨N, 0, none⟩), .pointer (some ⟨b, 0, none⟩), .int .i64 what, .func (.func 32) #[] #[.pointer (some ⟨a', 0, none⟩), .pointer (some ⟨b', 0, none⟩)], .int .i64 (x.1 : Int), undef, undef, undef], defers := [] }) ?assign ?body ?done ?stop
  case assign =>
    intro l x W K hK
    gi_wp2
    simpa using hK
  case body =>
    rintro l pre x W ⟨ho, hB, hs⟩ hpl
    have hc := ho.cell
    have hf := ho.free
    gi_wp2
    have hg := grown_cell10 W N 0 (.int .i64 ((pre.length : Int) + 1))
    refine ⟨(KeepsOthers.setCell _ _ _).from _, KeepsL.of hg (fun k hk => ⟨by have := hlt2 k hk; have := hI.lt k hk; omega, fun e => by have := hlt2 k hk; injection e with e; omega⟩), ?_, hB.setCell (p := ⟨N, 0, none⟩) (Nat.le_refl _) _, by simpa using hs⟩
    have := ho.set (.int .i64 ((pre.length : Int) + 1))
    rw [List.length_append, List.length_singleton]
    exact this
  case done =>
    rintro D ys W hD hS ⟨ho, hB, hs⟩ hK
    have hc := ho.cell
    have hl : ys.length = (ofS ss what).length := by rw [← hS, List.length_map]
    go_wp2_with fail
    refine ⟨by simp, .inl ⟨_, _, rfl, run_takeDeferred hK, ?_⟩⟩
    refine ⟨_, results_tmp rfl _ _ _, ?_, ?_⟩
    · rw [← hl]; rfl
    · rw [hN]
      exact (stays_put hD hK _).bel (by omega) (by omega) hB
  case stop =>
    rintro D c pre W _ _ h _
    exact h.elim
end Go.Proofs.Yticlbefbnfnlmaa
