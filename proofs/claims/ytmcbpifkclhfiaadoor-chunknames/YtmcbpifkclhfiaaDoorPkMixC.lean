/-
  The contract of digest.mix: the eight words behind a block. The table of the rounds is asked for ('Tab').
-/
import Derived.Test.YtmcbpifkclhfiaaDoorPkBlockW
namespace Go.Proofs.YtmcbpifkclhfiaaDoor
open Go.RowKit
set_option linter.unusedVariables false

/-- The package variable that holds the numbers of the rounds. -/
def Tab (w : World) : Prop := ∀ i, i < 64 → w.cell? ⟨0, i, none⟩ = some (.int .u32 (nv (shaK.getD i 0#32)))
theorem Tab.pos {w : World} (h : Tab w) : 0 < w.heap.size := World.block_lt_of_cell? w ⟨0, 0, none⟩ (h 0 (by omega))
theorem Tab.below {w w' : World} (h : Tab w) (hb : Below w.heap.size w w') : Tab w' := fun i hi => (hb.cell (p := ⟨0, i, none⟩) h.pos).trans (h i hi)
theorem Tab.belowN {w w' : World} {B : Nat} (h : Tab w) (h0 : 0 < B) (hb : Below B w w') : Tab w' := fun i hi => (hb.cell (p := ⟨0, i, none⟩) h0).trans (h i hi)
theorem Tab.grown {w w' : World} {g : Nat} (h : Tab w) (hg : w.grownBy w' (some g)) (h0 : g ≠ 0) : Tab w' := fun i hi =>
  (World.cell?_of_block (hg.block 0 h.pos (fun e => h0 (by injection e with e; exact e.symm)))).trans (h i hi)
theorem Tab.drew {w : World} (h : Tab w) : Tab w.drew := h
theorem Tab.setCell {w : World} (h : Tab w) {p : Addr} (h0 : p.block ≠ 0) (v : Value) : Tab (w.setCell p v) := fun i hi =>
  (World.cell?_of_block (heap_setCell_other w p 0 v (fun e => h0 e.symm))).trans (h i hi)

theorem wcells_append (a b : List (BitVec 32)) : wcells (a ++ b) = wcells a ++ wcells b := by simp [wcells]
theorem St.list_length (s : St) : s.list.length = 8 := rfl
theorem RowV.headWord {w : World} {g : Nat} {t : TypeId} {ws : List (BitVec 32)} {rest : List Value} (h : RowV w g t (wcells ws ++ rest)) {i : Nat} (hi : i < ws.length) : w.cell? ⟨g, i, none⟩ = some (.int .u32 (nv (ws.getD i 0#32))) :=
  h.cell (by rw [List.getElem?_append_left (by rw [wcells_length]; exact hi)]; exact wcells_get hi)
theorem RowV.setHead {w : World} {g : Nat} {t : TypeId} {ws : List (BitVec 32)} {rest : List Value} (h : RowV w g t (wcells ws ++ rest)) {i : Nat} (hi : i < ws.length) (x : BitVec 32) : RowV (w.setCell ⟨g, i, none⟩ (.int .u32 (nv x))) g t (wcells (ws.set i x) ++ rest) := by
  have := h.setCell i (.int .u32 (nv x))
  rw [List.set_append_left _ _ (by rw [wcells_length]; exact hi), wcells_set] at this
  exact this
theorem grown_drew {w w' : World} {row : Option Nat} (h : w.grownBy w' row) : w.grownBy w'.drew row := ⟨h.os, h.tape, h.output, h.size, h.block⟩
theorem grown_setCellM {w w' : World} {g : Nat} (h : w.grownBy w' (some g)) {p : Addr} (hp : p.block = g) (v : Value) : w.grownBy (w'.setCell p v) (some g) :=
  ⟨h.os, h.tape, h.output, by simpa using h.size, fun k hk hne => (heap_setCell_other w' p k v (fun e => hne (by rw [e, hp]))).trans (h.block k hk hne)⟩
theorem grown_below {w w' w'' : World} {g : Nat} (h : w.grownBy w' (some g)) (hb : Below w'.heap.size w' w'') : w.grownBy w'' (some g) :=
  ⟨hb.os.trans h.os, hb.tape.trans h.tape, hb.output.trans h.output, Nat.le_trans h.size hb.size, fun k hk hne => (hb.block k (Nat.lt_of_lt_of_le hk h.size)).trans (h.block k hk hne)⟩

/-- The first i of the eight words added. -/
def addI (s t : List (BitVec 32)) : Nat → List (BitVec 32)
  | 0 => s
  | i + 1 => (addI s t i).set i ((addI s t i).getD i 0#32 + t.getD i 0#32)
theorem addI_length (s t : List (BitVec 32)) (i : Nat) : (addI s t i).length = s.length := by
  induction i with
  | zero => rfl
  | succ i ih => simp [addI, ih]
theorem addI_all (s t : St) : addI s.list t.list 8 = (s.add t).list := rfl

/-- The eight words behind the rounds. -/
def mixW (s : St) (ws : List (BitVec 32)) : St := s.add (rnds s shaK ws 64)
theorem mixB_eq (s : St) (b : List UInt8) : mixB s b = mixW s (ext (words16 b) 48) := by unfold mixB mixW; exact Eq.refl _
theorem Tryd.plainW : Tryd.prog.plainKey 58 = true := by kernel_rfl
theorem Tryd.sizeU : (Tryd.prog.info? 58).map (·.size) = some 1 := by kernel_rfl
theorem Tryd.lenS : Tryd.prog.arrayLen 59 = 8 := by kernel_rfl

set_option maxRecDepth 100000 in
set_option maxHeartbeats 1000000 in
theorem mix_any (g : Nat) (t : TypeId) (s : St) (rest : List Value) (ws : List (BitVec 32)) (hws : ws.length = 64) (w : World) (hg0 : g ≠ 0) (hT : Tab w) (hr : RowV w g t (wcells s.list ++ rest)) :
    Calls Tryd.prog 42 #[.pointer (some ⟨g, 0, none⟩), .agg (wcells ws).toArray] w fun e w' => e = .returned (.tuple #[]) ∧ RowV w' g t (wcells (mixW s ws).list ++ rest) ∧ w.grownBy w' (some g) := by
  have Hws := Lib.hid hws
  clear hws
  have hsz : (Tryd.prog.info? 61).map (·.size) = some ((wcells ws).toArray).size := by rw [Tryd.sizeW, List.size_toArray, wcells_length, Hws.out]
  have Hsz := Lib.hid hsz
  clear hsz
  go_enter Tryd.func42, Tryd.ntmps42
  go_wp2_with (with_reducible refine at_box 61 ?_; refine wpList_box_rowV rfl 61 _ rfl (wcells ws) rfl ?_)
  intro w1 hr1 hb1 hs1
  have hgw := hr.lt
  have hr' := hr.below hgw hb1
  have hT1 := hT.below hb1
  have hgr : w.grownBy w1 (some g) := grown_of_below hb1 _
  have c0 := hr'.headWord (i := 0) (by rw [St.list_length]; omega)
  have c1 := hr'.headWord (i := 1) (by rw [St.list_length]; omega)
  have c2 := hr'.headWord (i := 2) (by rw [St.list_length]; omega)
  have c3 := hr'.headWord (i := 3) (by rw [St.list_length]; omega)
  have c4 := hr'.headWord (i := 4) (by rw [St.list_length]; omega)
  have c5 := hr'.headWord (i := 5) (by rw [St.list_length]; omega)
  have c6 := hr'.headWord (i := 6) (by rw [St.list_length]; omega)
  have c7 := hr'.headWord (i := 7) (by rw [St.list_length]; omega)
  change _ = some (Value.int .u32 (nv s.a)) at c0
  change _ = some (Value.int .u32 (nv s.b)) at c1
  change _ = some (Value.int .u32 (nv s.c)) at c2
  change _ = some (Value.int .u32 (nv s.d)) at c3
  change _ = some (Value.int .u32 (nv s.e)) at c4
  change _ = some (Value.int .u32 (nv s.f)) at c5
  change _ = some (Value.int .u32 (nv s.g)) at c6
  change _ = some (Value.int .u32 (nv s.h)) at c7
  have hl8 := Tryd.lenS
  clear hr hT hb1
  go_wp2_with fail
  refine wp_region_still_tail 39 (by kernel_rfl) (by kernel_rfl) ?_
  simp only [List.take_succ_cons, List.take_zero, List.drop_succ_cons, List.drop_zero]
  iterate 39 still_step
  refine wpStill_nil ?_
  change wpList _ _ _ _ _ w1.drew
  clear c0 c1 c2 c3 c4 c5 c6 c7 hl8
  replace hr1 := hr1.drew
  replace hr' := hr'.drew
  replace hT1 := hT1.drew
  replace hgr := grown_drew hgr
  generalize w1.drew = w2 at *
  go_wp2_with ((with_reducible refine at_load 61 ?_); refine wpList_load_row rfl 61 _ rfl w.heap.size rfl 61 _ (0, 0) _ hr1 Tryd.underlying61 rfl Hsz.out ?_)
  have Hgr := Lib.hid hgr
  clear hgr hr1 hs1 hgw
  go_loopw [4, 5, 6, 7, 8, 9, 10, 11, 51] (fun va vb vc vd ve vf vg vh i W => ∃ k : Nat, k ≤ 64 ∧ i = .int .i64 k ∧ va = .int .u32 (nv (rnds s shaK ws k).a) ∧ vb = .int .u32 (nv (rnds s shaK ws k).b) ∧ vc = .int .u32 (nv (rnds s shaK ws k).c) ∧ vd = .int .u32 (nv (rnds s shaK ws k).d) ∧ ve = .int .u32 (nv (rnds s shaK ws k).e) ∧ vf = .int .u32 (nv (rnds s shaK ws k).f) ∧ vg = .int .u32 (nv (rnds s shaK ws k).g) ∧ vh = .int .u32 (nv (rnds s shaK ws k).h) ∧ RowV W g t (wcells s.list ++ rest) ∧ Tab W ∧ Hid (w.grownBy W (some g))) (fun _ _ _ _ _ _ _ _ i _ => 64 - (intOf i).toNat)
  case atStart => exact ⟨0, Nat.zero_le _, rfl, rfl, rfl, rfl, rfl, rfl, rfl, rfl, rfl, hr', hT1, Hgr⟩
  case round =>
    obtain ⟨k, hk, rfl, rfl, rfl, rfl, rfl, rfl, rfl, rfl, rfl, hrow, hT, Hgr⟩ := hrel
    clear hr' hT1
    by_cases hlt : k < 64
    · have Hstep : Hid (rnds s shaK ws (k + 1) = (rnds s shaK ws k).rnd (shaK.getD k 0#32) (ws.getD k 0#32)) := by show _ = _; exact Eq.refl _
      generalize hR : rnds s shaK ws k = R at *
      clear hR
      obtain ⟨a, b, c, d, e, f, g', hh⟩ := R
      have hK := hT k hlt
      have hix : ∀ W, (Instr.index 61 (.agg (wcells ws).toArray) (.int .i64 (k : Int))).run Tryd.prog W = .ok (.int .u32 (nv (ws.getD k 0#32))) W := fun W => run_index_one Tryd.underlying61 Tryd.plainW Tryd.sizeU hlt (wcells_get (by rw [Hws.out]; exact hlt))
      generalize shaK.getD k 0#32 = K at *
      generalize ws.getD k 0#32 = X at *
      have n1 := nv_bd a
      have n2 := nv_bd b
      have n3 := nv_bd c
      have n4 := nv_bd d
      have n5 := nv_bd e
      have n6 := nv_bd f
      have n7 := nv_bd g'
      have n8 := nv_bd hh
      have n9 := nv_bd K
      have n10 := nv_bd X
      have hd : decide ((k : Int) < 64) = true := decide_eq_true (by omega)
      have hlW := Tryd.lenW
      have b0 : (k : Int) < 64 := by omega
      have x1 := xor_nat (rot e 6) (rot e 11)
      have x2 : bits .xor .u32 (nv (rot e 6 ^^^ rot e 11)) (nv (rot e 25)) = nv (bg1 e) := xor_nat (rot e 6 ^^^ rot e 11) (rot e 25)
      have a1 := add_wrap hh (bg1 e)
      have q1 := and_nat e f
      have q2 : bits .xor .u32 (if IntKind.u32.signed = true then -1 else IntKind.u32.max) (nv e) = nv (~~~ e) := not_nat e
      have q3 := and_nat (~~~ e) g'
      have x3 : bits .xor .u32 (nv (e &&& f)) (nv (~~~ e &&& g')) = nv (chz e f g') := xor_nat (e &&& f) (~~~ e &&& g')
      have a2 := add_wrap (hh + bg1 e) (chz e f g')
      have a3 := add_wrap (hh + bg1 e + chz e f g') K
      have a4 := add_wrap (hh + bg1 e + chz e f g' + K) X
      go_wp2_with fail
      refine wp_region_still_tail 25 (by kernel_rfl) (by kernel_rfl) ?_
      simp only [List.take_succ_cons, List.take_zero, List.drop_succ_cons, List.drop_zero]
      iterate 2 still_step
      still_call (still_ofB (rotated_any e 6 (by omega) (by omega) _))
      still_step
      still_call (still_ofB (rotated_any e 11 (by omega) (by omega) _))
      iterate 2 still_step
      still_call (still_ofB (rotated_any e 25 (by omega) (by omega) _))
      iterate 17 still_step
      refine wpStill_nil ?_
      change wpList _ _ _ _ _ wr.drew
      clear x1 x2 a1 q1 q2 q3 x3 a2 a3 a4 hK hix
      replace hrow := hrow.drew
      replace hT := hT.drew
      have Hgr2 := Lib.hid (grown_drew Hgr.out)
      generalize wr.drew = wd at *
      have HT : Hid (hh + bg1 e + chz e f g' + K + X = St.t1 ⟨a, b, c, d, e, f, g', hh⟩ K X) := rfl
      generalize hh + bg1 e + chz e f g' + K + X = T at *
      have nT := nv_bd T
      go_wp2_with fail
      refine (rotated_any a 2 (by omega) (by omega) _).mono ?_
      rintro e' w' ⟨rfl, rfl⟩
      go_wp2_with fail
      refine (rotated_any a 13 (by omega) (by omega) _).mono ?_
      rintro e' w' ⟨rfl, rfl⟩
      go_wp2_with fail
      refine (rotated_any a 22 (by omega) (by omega) _).mono ?_
      rintro e' w' ⟨rfl, rfl⟩
      have x1 := xor_nat (rot a 2) (rot a 13)
      have x2 : bits .xor .u32 (nv (rot a 2 ^^^ rot a 13)) (nv (rot a 22)) = nv (bg0 a) := xor_nat (rot a 2 ^^^ rot a 13) (rot a 22)
      have q1 := and_nat a b
      have q2 := and_nat a c
      have q3 := and_nat b c
      have x3 := xor_nat (a &&& b) (a &&& c)
      have x4 : bits .xor .u32 (nv (a &&& b ^^^ a &&& c)) (nv (b &&& c)) = nv (maj a b c) := xor_nat (a &&& b ^^^ a &&& c) (b &&& c)
      have a1 := add_nat (bg0 a) (maj a b c)
      have a2 := add_nat T (bg0 a + maj a b c)
      have a3 := add_nat d T
      go_wp2
      go_roundw
      case rel =>
        refine ⟨k + 1, by omega, by go_num, ?_, ?_, ?_, ?_, ?_, ?_, ?_, ?_, hrow, hT, Hgr2⟩
        all_goals rw [Hstep.out]
        · show Value.int .u32 (nv (T + (bg0 a + maj a b c))) = Value.int .u32 (nv (St.t1 _ K X + St.t2 _))
          rw [← HT.out]
          exact Eq.refl _
        · exact Eq.refl _
        · exact Eq.refl _
        · exact Eq.refl _
        · show Value.int .u32 (nv (d + T)) = Value.int .u32 (nv (d + St.t1 _ K X))
          rw [← HT.out]
        · exact Eq.refl _
        · exact Eq.refl _
        · exact Eq.refl _
      case measure => simp [intOf]; omega
    · obtain rfl : k = 64 := by omega
      have Hm : Hid (mixW s ws = s.add (rnds s shaK ws 64)) := by show _ = _; unfold mixW; exact Eq.refl _
      generalize hR : rnds s shaK ws 64 = R at *
      clear hR
      have Hall : Hid (wcells (mixW s ws).list = wcells (addI s.list R.list 8)) := by show _ = _; rw [addI_all, Hm.out]
      go_wp2_with fail
      go_loopw [122] (fun i W => ∃ k : Nat, k ≤ 8 ∧ i = .int .i64 k ∧ RowV W g t (wcells (addI s.list R.list k) ++ rest) ∧ Hid (w.grownBy W (some g))) (fun i _ => 8 - (intOf i).toNat)
      case atStart => exact ⟨0, Nat.zero_le _, rfl, hrow, Hgr⟩
      case round =>
        obtain ⟨k, hk, hik, hrow1, Hgr1⟩ := hrel
        subst hik
        clear hrow
        by_cases hlt : k < 8
        · have Hl : Hid ((addI s.list R.list k).length = 8) := by show _ = _; rw [addI_length, St.list_length]
          have hc := hrow1.headWord (i := k) (by rw [Hl.out]; exact hlt)
          have hfz := hrow1.frozen k
          have hix : ∀ W, (Instr.index 59 (.agg #[.int .u32 (nv R.a), .int .u32 (nv R.b), .int .u32 (nv R.c), .int .u32 (nv R.d), .int .u32 (nv R.e), .int .u32 (nv R.f), .int .u32 (nv R.g), .int .u32 (nv R.h)]) (.int .i64 (k : Int))).run Tryd.prog W = .ok (.int .u32 (nv (R.list.getD k 0#32))) W := fun W => run_index_one (cs := wcells R.list) Tryd.underlying59 Tryd.plainW Tryd.sizeU hlt (wcells_get (by rw [St.list_length]; exact hlt))
          have HW := Lib.hid (hrow1.drew.setHead (i := k) (by rw [Hl.out]; exact hlt) ((addI s.list R.list k).getD k 0#32 + R.list.getD k 0#32))
          change Hid (RowV _ _ _ (wcells (addI s.list R.list (k + 1)) ++ rest)) at HW
          have HG := Lib.hid (fun v => grown_setCellM (grown_drew Hgr1.out) (p := ⟨g, k, none⟩) rfl v)
          clear hrow1
          generalize (addI s.list R.list k).getD k 0#32 = x at *
          generalize R.list.getD k 0#32 = y at *
          have n1 := nv_bd x
          have n2 := nv_bd y
          have a1 := add_wrap x y
          have b0 : (k : Int) < 8 := by omega
          have hd : decide ((k : Int) < 8) = true := decide_eq_true (by omega)
          have hl8 := Tryd.lenS
          go_wp2_with fail
          refine wp_region_still_tail 9 (by kernel_rfl) (by kernel_rfl) ?_
          simp only [List.take_succ_cons, List.take_zero, List.drop_succ_cons, List.drop_zero]
          iterate 9 still_step
          refine wpStill_nil ?_
          change wpList _ _ _ _ _ wr.drew
          go_wp2
          go_roundw
          case rel =>
            (repeat apply Exists.intro)
            refine ⟨⟨k + 1, ?_, ?_, HW.out, Lib.hid (HG.out _)⟩, rfl⟩
            · omega
            · go_num
          case measure => simp [intOf]; omega
        · obtain rfl : k = 8 := by omega
          go_wp2_with fail
          go_end0
          refine ⟨rfl, ?_, Hgr1.out⟩
          rw [Hall.out]
          exact hrow1
end Go.Proofs.YtmcbpifkclhfiaaDoor
