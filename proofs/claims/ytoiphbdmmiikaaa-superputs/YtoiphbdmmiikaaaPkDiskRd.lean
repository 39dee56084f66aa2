/-
  Layer 6: a disk in memory ('DiskAt', 'Disk'), and the contracts of its small functions: has, step, Fuse, Waits.
  Layer 6: the contract of disk.New.
  Layer 6: the contract of Read.
-/
import Derived.Test.YtoiphbdmmiikaaaRows
import Derived.Test.YtoiphbdmmiikaaaPkSuperM
import Derived.WalkKit
import Derived.WalkSmall
import Derived.WalkLawsBesides
import Derived.Lib.Hide
import Derived.Test.YtoiphbdmmiikaaaPkBuild
import Derived.Maps.OwnOps
namespace Go.Proofs.Ytoiphbdmmiikaaa
open Go.RowKit
set_option linter.unusedVariables false

def dcells (vd vw : Value) (bm : Nat) (d : Dk) : List Value := [vd, vw, .map (some bm), .int .i64 (d.steps : Int), .int .i64 ((d.fuse.getD 0 : Nat) : Int), .bool d.fuse.isSome, .bool d.down]
/-- Block g is the disk d: its durable sectors in the row vd, its waiting writes in the row vw, the map of the last writes in block bm; all of it from block base on. -/
structure DiskAt (w : World) (base g : Nat) (vd vw : Value) (bm : Nat) (d : Dk) : Prop where
  row : RowV w g 72 (dcells vd vw bm d)
  dur : w.ownsRow base 24 256 vd d.dur.length (secs d.dur)
  wait : w.ownsRow base 75 257 vw d.wait.length (chgs d.wait)
  map : w.ownsMap Try.prog 3 (plainElem (H := Unit) Try.prog 3) bm d.wait.length (lastD d.wait)
  hg : base ≤ g
  hm : base ≤ bm
def foot (g bm : Nat) (vd vw : Value) : List Nat := g :: bm :: (vd.ownBlock.toList ++ vw.ownBlock.toList)
/-- .. the blocks that it holds are those of L. -/
def Disk (w : World) (base : Nat) (L : List Nat) (g : Nat) (d : Dk) : Prop := ∃ vd vw bm, DiskAt w base g vd vw bm d ∧ L = foot g bm vd vw

theorem mem_foot {g bm k : Nat} {vd vw : Value} : k ∈ foot g bm vd vw ↔ k = g ∨ k = bm ∨ vd.ownBlock = some k ∨ vw.ownBlock = some k := by
  simp [foot, Option.mem_toList]

section
variable {w w' : World} {base g bm : Nat} {vd vw : Value} {d d' : Dk} {L : List Nat}
theorem DiskAt.c0 (h : DiskAt w base g vd vw bm d) : w.cell? ⟨g, 0, none⟩ = some vd := h.row.cell rfl
theorem DiskAt.c1 (h : DiskAt w base g vd vw bm d) : w.cell? ⟨g, 1, none⟩ = some vw := h.row.cell rfl
theorem DiskAt.c2 (h : DiskAt w base g vd vw bm d) : w.cell? ⟨g, 2, none⟩ = some (.map (some bm)) := h.row.cell rfl
theorem DiskAt.c3 (h : DiskAt w base g vd vw bm d) : w.cell? ⟨g, 3, none⟩ = some (.int .i64 (d.steps : Int)) := h.row.cell rfl
theorem DiskAt.c4 (h : DiskAt w base g vd vw bm d) : w.cell? ⟨g, 4, none⟩ = some (.int .i64 ((d.fuse.getD 0 : Nat) : Int)) := h.row.cell rfl
theorem DiskAt.c5 (h : DiskAt w base g vd vw bm d) : w.cell? ⟨g, 5, none⟩ = some (.bool d.fuse.isSome) := h.row.cell rfl
theorem DiskAt.c6 (h : DiskAt w base g vd vw bm d) : w.cell? ⟨g, 6, none⟩ = some (.bool d.down) := h.row.cell rfl
theorem RowV.free {t : TypeId} {cs : List Value} (h : RowV w g t cs) (i : Nat) : w.frozen? ⟨g, i, none⟩ = false := by
  unfold RowV at h
  simp [World.frozen?, h]
theorem DiskAt.glt (h : DiskAt w base g vd vw bm d) : g < w.heap.size := h.row.lt
theorem DiskAt.mlt (h : DiskAt w base g vd vw bm d) : bm < w.heap.size := h.map.lt
theorem DiskAt.gm (h : DiskAt w base g vd vw bm d) : g ≠ bm := row_map_apart h.row h.map
theorem DiskAt.dg (h : DiskAt w base g vd vw bm d) : vd.ownBlock ≠ some g := own_row_apart h.dur h.row (by decide)
theorem DiskAt.wg (h : DiskAt w base g vd vw bm d) : vw.ownBlock ≠ some g := own_row_apart h.wait h.row (by decide)
theorem DiskAt.dm (h : DiskAt w base g vd vw bm d) : vd.ownBlock ≠ some bm := own_map_apart h.dur h.map
theorem DiskAt.wm (h : DiskAt w base g vd vw bm d) : vw.ownBlock ≠ some bm := own_map_apart h.wait h.map
theorem DiskAt.dw (h : DiskAt w base g vd vw bm d) {k : Nat} (hk : vd.ownBlock = some k) : vw.ownBlock ≠ some k := own_apart h.dur h.wait (by decide) hk
theorem DiskAt.lt (h : DiskAt w base g vd vw bm d) {k : Nat} (hk : k ∈ foot g bm vd vw) : base ≤ k ∧ k < w.heap.size := by
  rcases mem_foot.1 hk with rfl | rfl | hk | hk
  · exact ⟨h.hg, h.glt⟩
  · exact ⟨h.hm, h.mlt⟩
  · exact h.dur.lt k hk
  · exact h.wait.lt k hk
theorem Disk.lt (h : Disk w base L g d) {k : Nat} (hk : k ∈ L) : base ≤ k ∧ k < w.heap.size := by
  obtain ⟨_, _, _, h, rfl⟩ := h
  exact h.lt hk
theorem DiskAt.but {M : List Nat} {B : Nat} (h : DiskAt w base g vd vw bm d) (hb : But M B w w') (hB : ∀ k ∈ foot g bm vd vw, k < B ∧ k ∉ M) : DiskAt w' base g vd vw bm d :=
  ⟨rowV_but h.row hb (hB g (by simp [foot])).1 (hB g (by simp [foot])).2, own_but h.dur hb fun k hk => hB k (by simp [mem_foot, hk]), own_but h.wait hb fun k hk => hB k (by simp [mem_foot, hk]),
    map_but h.map hb (hB bm (by simp [foot])).1 (hB bm (by simp [foot])).2, h.hg, h.hm⟩
theorem Disk.but {M : List Nat} {B : Nat} (h : Disk w base L g d) (hb : But M B w w') (hB : ∀ k ∈ L, k < B ∧ k ∉ M) : Disk w' base L g d := by
  obtain ⟨vd, vw, bm, h, rfl⟩ := h
  exact ⟨vd, vw, bm, h.but hb hB, rfl⟩
theorem DiskAt.below (h : DiskAt w base g vd vw bm d) (hb : Below w.heap.size w w') : DiskAt w' base g vd vw bm d := h.but (But.of [] hb) fun k hk => ⟨(h.lt hk).2, by simp⟩
theorem Disk.below (h : Disk w base L g d) (hb : Below w.heap.size w w') : Disk w' base L g d := h.but (But.of [] hb) fun k hk => ⟨(h.lt hk).2, by simp⟩
theorem DiskAt.drew (h : DiskAt w base g vd vw bm d) : DiskAt w.drew base g vd vw bm d := ⟨h.row, h.dur, h.wait, h.map, h.hg, h.hm⟩
theorem Disk.drew (h : Disk w base L g d) : Disk w.drew base L g d := by
  obtain ⟨vd, vw, bm, h, rfl⟩ := h
  exact ⟨vd, vw, bm, h.drew, rfl⟩
/-- The disk's own cells are written: nothing else turns. -/
theorem DiskAt.cells_put (h : DiskAt w base g vd vw bm d) (hg : w.grownBy w' (some g)) (hr : RowV w' g 72 (dcells vd vw bm d')) (h1 : d'.dur = d.dur) (h2 : d'.wait = d.wait) : DiskAt w' base g vd vw bm d' :=
  ⟨hr, by rw [h1]; exact h.dur.kept hg (.inr h.dg), by rw [h2]; exact h.wait.kept hg (.inr h.wg), by rw [h2]; exact h.map.kept hg (fun e => h.gm (by injection e with e; exact e.symm)), h.hg, h.hm⟩

theorem Disk.lower {base' : Nat} (h : Disk w base L g d) (hb : base' ≤ base) : Disk w base' L g d := by
  obtain ⟨vd, vw, bm, h, rfl⟩ := h
  exact ⟨vd, vw, bm, ⟨h.row, own_rebase h.dur fun k hk => Nat.le_trans hb (h.dur.lt k hk).1, own_rebase h.wait fun k hk => Nat.le_trans hb (h.wait.lt k hk).1, h.map, Nat.le_trans hb h.hg, Nat.le_trans hb h.hm⟩, rfl⟩
/-- What a call makes of a disk: it is d' now; below the old end of memory nothing has turned but what it held; it holds what it held, and new memory. -/
def Turned (w : World) (base : Nat) (L : List Nat) (g : Nat) (d' : Dk) (w' : World) : Prop := ∃ L', Disk w' base L' g d' ∧ But L w.heap.size w w' ∧ ∀ k ∈ L', k ∈ L ∨ w.heap.size ≤ k
theorem Turned.trans {L1 : List Nat} {w1 w2 : World} {d2 : Dk} (hb : But L w.heap.size w w1) (hL : ∀ k ∈ L1, k ∈ L ∨ w.heap.size ≤ k) (h : Turned w1 base L1 g d2 w2) : Turned w base L g d2 w2 := by
  obtain ⟨L2, h1, h2, h3⟩ := h
  refine ⟨L2, h1, hb.trans (h2.mono hb.size fun k hk hm => (hL k hm).resolve_right (by omega)), fun k hk => ?_⟩
  rcases h3 k hk with h | h
  · exact hL k h
  · exact .inr (Nat.le_trans hb.size h)
end

set_option maxRecDepth 100000 in
set_option maxHeartbeats 1000000 in
theorem dhas_any (w : World) (base g bm : Nat) (vd vw : Value) (d : Dk) (x : Int) (h : DiskAt w base g vd vw bm d) :
    Calls Try.prog 30 #[.pointer (some ⟨g, 0, none⟩), .int .i64 x] w fun e w' => e = .returned (.bool (d.has x)) ∧ w' = w := by
  have h0 := h.c0
  obtain ⟨A, c, hv, _, _⟩ := own_slice h.dur
  rw [hv] at h0
  clear hv
  generalize hn : d.dur.length = n at h0
  have Hn : Hid (d.has x = (decide (0 ≤ x) && decide (x < (n : Int)))) := by show _ = _; rw [Dk.has, hn]
  clear h hn
  go_enter Try.func30, Try.ntmps30
  go_wp2_with fail
  all_goals go_ret
  · exact ⟨by rw [Hn.out]; simp [*], rfl⟩
  · exact ⟨by rw [Hn.out]; simp; intro hh; omega, rfl⟩

theorem gset {w w1 : World} {g i : Nat} (h : w.grownBy w1 (some g)) (v : Value) : w.grownBy (w1.setCell ⟨g, i, none⟩ v) (some g) :=
  h.trans ⟨rfl, rfl, rfl, by simp, fun k hk hne => Below.heap_setCell _ _ _ _ (by intro e; exact hne (by rw [e]))⟩

set_option maxRecDepth 100000 in
set_option maxHeartbeats 2000000 in
theorem dstep_any (w : World) (base g bm : Nat) (vd vw : Value) (d : Dk) (hk : d.Ok) (h : DiskAt w base g vd vw bm d) :
    Calls Try.prog 31 #[.pointer (some ⟨g, 0, none⟩)] w fun e w' => e = .returned (.int .i64 (if d.dead then 4 else 0)) ∧ DiskAt w' base g vd vw bm d.stepped ∧ w.grownBy w' (some g) := by
  have h3 := h.c3
  have h4 := h.c4
  have h5 := h.c5
  have h6 := h.c6
  have f3 := h.row.free 3
  have f4 := h.row.free 4
  have f6 := h.row.free 6
  have hs := hk.steps
  have hf := hk.fuse
  have HR := Lib.hid h.row
  have HD := Lib.hid h
  clear h hk
  have hr := World.grownBy.refl w (some g)
  rcases d with ⟨dur, wait, steps, fuse, down⟩
  simp only at h3 h4 h5 h6 hs hf
  have fin : ∀ (w' : World) (d' : Dk), w.grownBy w' (some g) → RowV w' g 72 (dcells vd vw bm d') → d'.dur = dur → d'.wait = wait → DiskAt w' base g vd vw bm d' := fun w' d' a b c e => HD.out.cells_put a b c e
  have Fin := Lib.hid fin
  clear fin
  cases down
  · rcases fuse with _ | _ | n
    · simp only [Option.getD_none, Option.isSome_none] at h4 h5
      go_enter Try.func31, Try.ntmps31
      go_wp2_with fail
      go_ret
      exact ⟨rfl, Fin.out _ _ (gset hr _) (HR.out.setCell 3 _) rfl rfl, gset hr _⟩
    · simp only [Option.getD_some, Option.isSome_some] at h4 h5
      go_enter Try.func31, Try.ntmps31
      go_wp2_with fail
      go_ret
      exact ⟨rfl, Fin.out _ _ (gset hr _) (HR.out.setCell 6 _) rfl rfl, gset hr _⟩
    · simp only [Option.getD_some, Option.isSome_some] at h4 h5
      have hn := hf _ rfl
      have hz : ¬ (((n + 1 : Nat) : Int) = 0) := by omega
      go_enter Try.func31, Try.ntmps31
      go_wp2_with fail
      go_ret
      exact ⟨rfl, Fin.out _ _ (gset (gset hr _) _) ((HR.out.setCell 4 _).setCell 3 _) rfl rfl, gset (gset hr _) _⟩
  · rcases fuse with _ | _ | n
    · simp only [Option.getD_none, Option.isSome_none] at h4 h5
      go_enter Try.func31, Try.ntmps31
      go_wp2_with fail
      go_ret
      exact ⟨rfl, Fin.out _ _ hr HR.out rfl rfl, hr⟩
    · simp only [Option.getD_some, Option.isSome_some] at h4 h5
      go_enter Try.func31, Try.ntmps31
      go_wp2_with fail
      go_ret
      exact ⟨rfl, Fin.out _ _ (gset hr _) (HR.out.setCell 6 _) rfl rfl, gset hr _⟩
    · simp only [Option.getD_some, Option.isSome_some] at h4 h5
      have hz : ¬ (((n + 1 : Nat) : Int) = 0) := by omega
      go_enter Try.func31, Try.ntmps31
      go_wp2_with fail
      go_ret
      exact ⟨rfl, Fin.out _ _ hr HR.out rfl rfl, hr⟩

set_option maxRecDepth 100000 in
set_option maxHeartbeats 2000000 in
theorem dfuse_any (w : World) (base g bm : Nat) (vd vw : Value) (d : Dk) (x : Int) (h : DiskAt w base g vd vw bm d) :
    Calls Try.prog 16 #[.pointer (some ⟨g, 0, none⟩), .int .i64 x] w fun e w' => e = .returned (.tuple #[]) ∧ DiskAt w' base g vd vw bm (d.setFuse x) ∧ w.grownBy w' (some g) := by
  have h4 := h.c4
  have h5 := h.c5
  have f4 := h.row.free 4
  have f5 := h.row.free 5
  have HR := Lib.hid h.row
  have HD := Lib.hid h
  clear h
  have hr := World.grownBy.refl w (some g)
  by_cases hx : x < 0
  · have e1 : max x 0 = 0 := by omega
    have e2 : decide (0 ≤ x) = false := by simp; omega
    go_enter Try.func16, Try.ntmps16
    go_wp2_with fail
    go_end0
    have e : d.setFuse x = { d with fuse := none } := by simp [Dk.setFuse, hx]
    rw [e]
    exact ⟨rfl, HD.out.cells_put (gset (gset hr _) _) ((HR.out.setCell 4 _).setCell 5 _) rfl rfl, gset (gset hr _) _⟩
  · obtain ⟨n, rfl⟩ := Int.eq_ofNat_of_zero_le (show 0 ≤ x by omega)
    have e1 : max (n : Int) 0 = (n : Int) := by omega
    have e2 : decide (0 ≤ (n : Int)) = true := by simp
    go_enter Try.func16, Try.ntmps16
    go_wp2_with fail
    go_end0
    have e : d.setFuse (n : Int) = { d with fuse := some n } := by simp [Dk.setFuse, hx]
    rw [e]
    exact ⟨rfl, HD.out.cells_put (gset (gset hr _) _) ((HR.out.setCell 4 _).setCell 5 _) rfl rfl, gset (gset hr _) _⟩

set_option maxRecDepth 100000 in
theorem dwaits_any (w : World) (base g bm : Nat) (vd vw : Value) (d : Dk) (h : DiskAt w base g vd vw bm d) :
    Calls Try.prog 29 #[.pointer (some ⟨g, 0, none⟩)] w fun e w' => e = .returned (.int .i64 (d.wait.length : Int)) ∧ w' = w := by
  have h0 := h.c1
  obtain ⟨A, c, hv, _, _⟩ := own_slice h.wait
  rw [hv] at h0
  clear h hv
  go_enter Try.func29, Try.ntmps29
  go_wp2_with fail
  go_ret
  exact ⟨rfl, rfl⟩
set_option maxRecDepth 100000 in
set_option maxHeartbeats 2000000 in
theorem dforget_any (w : World) (base g bm : Nat) (vd vw : Value) (d : Dk) (h : DiskAt w base g vd vw bm d) :
    Calls Try.prog 32 #[.pointer (some ⟨g, 0, none⟩)] w fun e w' => e = .returned (.tuple #[]) ∧ DiskAt w' base g vd (.slice none 0 0) bm { d with wait := [] } ∧ But [g, bm] w.heap.size w w' := by
  have h1 := h.c1
  have h2 := h.c2
  have f1 := h.row.free 1
  have hne : bm ≠ g := h.gm.symm
  have hr := gset (i := 1) (World.grownBy.refl w (some g)) (.slice none 0 0)
  have hm := h.map.kept hr (fun e => hne (by injection e))
  obtain ⟨w2, hcl, hm2, ht⟩ := run_clear_map hm Try.underlying69 0
  have hcl' : ∀ ty, (Builtin.clear_ #[69] ty #[.map (some bm)]).run Try.prog (w.setCell ⟨g, 1, none⟩ (.slice none 0 0)) = .ok (.tuple #[]) w2 := fun _ => hcl
  have HD := Lib.hid h
  have Hr := Lib.hid hr
  have Hm := Lib.hid hm2
  have Ht := Lib.hid ht.grown
  clear h hr hm hm2 ht hcl
  go_enter Try.func32, Try.ntmps32
  go_wp2_with fail
  go_end0
  have h := HD.out
  have hB : But [g, bm] w.heap.size w w2 := ((But.refl _ _ w).grown Hr.out (by intro k e; injection e with e; simp [e]) (Nat.le_refl _)).grown Ht.out (by intro k e; injection e with e; simp [e]) Hr.out.size
  refine ⟨rfl, ⟨((h.row.setCell 1 _).keep Ht.out (fun e => hne (by injection e))), ?_, World.ownsRow_nil _ _ _ _, Hm.out, h.hg, h.hm⟩, hB⟩
  exact (h.dur.kept Hr.out (.inr h.dg)).kept Ht.out (.inr h.dm)
end Go.Proofs.Ytoiphbdmmiikaaa
namespace Go.Proofs.Ytoiphbdmmiikaaa
open Go.RowKit
set_option linter.unusedVariables false

theorem Try.infoS : (Try.prog.info? 24).map (fun i => (i.zero, i.size, i.bytes)) = some (some zeroSec.val, 256, 256) := by kernel_rfl
theorem Try.infoC : (Try.prog.info? 75).map (fun i => (i.zero, i.size, i.bytes)) = some (some (.agg (.int .i64 0 :: zeroSec.cs).toArray), 257, 264) := by kernel_rfl
theorem Try.sizeSec : (Try.prog.info? 24).map (·.size) = some 256 := by kernel_rfl
theorem Try.sizeC : (Try.prog.info? 75).map (·.size) = some 257 := by kernel_rfl

theorem zero_cs : zeroSec.cs = List.replicate 256 (.int .u8 0) := by
  unfold Sec.cs zeroSec cells
  rw [List.map_replicate]
  rfl
theorem made_secs (n : Nat) : (madeCells zeroSec.val.cells (n * 256)).toList = secs (List.replicate n zeroSec) := by
  have e1 : secs (List.replicate n zeroSec) = List.replicate (n * 256) (.int .u8 0) := by
    induction n with
    | zero => rfl
    | succ n ih =>
      rw [List.replicate_succ]
      show zeroSec.cs ++ secs _ = _
      rw [ih, zero_cs, List.replicate_append_replicate, Nat.succ_mul]
      congr 1
      omega
  rw [e1]
  apply List.ext_getElem?
  intro j
  have e2 : zeroSec.val.cells = zeroSec.cs.toArray := rfl
  rw [e2, zero_cs]
  generalize hN : (256 : Nat) = N
  have hp : 0 < N := by omega
  clear hN e1 e2
  by_cases hj : j < n * N
  · have : j % N < N := Nat.mod_lt _ hp
    simp [madeCells, hj, this]
  · simp [madeCells, hj]

set_option maxRecDepth 100000 in
set_option maxHeartbeats 2000000 in
theorem dnew_bad (w : World) (x : Int) (hx : x < 1 ∨ 4096 < x) : Calls Try.prog 13 #[.int .i64 x] w fun e w' => e = .returned (.tuple #[.pointer none, .int .i64 2]) ∧ w' = w := by
  go_enter Try.func13, Try.ntmps13
  go_wp2_with fail
  all_goals first | (exfalso; omega) | skip
  all_goals go_ret2
  all_goals exact ⟨rfl, rfl⟩

set_option maxRecDepth 100000 in
set_option maxHeartbeats 2000000 in
theorem dnew_any (w : World) (n : Nat) (h1 : 1 ≤ n) (h2 : n ≤ 4096) : Calls Try.prog 13 #[.int .i64 (n : Int)] w fun e w' =>
    ∃ g L, e = .returned (.tuple #[.pointer (some ⟨g, 0, none⟩), .int .i64 0]) ∧ Disk w' w.heap.size L g (Dk.new n) ∧ Below w.heap.size w w' := by
  obtain ⟨i0, hi, hz0, hz1, hz2⟩ := info_parts Try.infoS
  have hmm := @run_makeMap Try.prog
  go_enter Try.func13, Try.ntmps13
  go_wp2_with (at_make; refine wpList_make_full _ rfl _ _ 68 rfl w.heap.size 24 i0 zeroSec.val 256 Try.underlying68 hi hz0 hz1 .i64 .i64 _ _ n rfl rfl rfl rfl (by rw [hz2]; omega) (by unfold maxLen; omega) (Nat.le_refl _) ?_; intro w1 hown hgrow)
  go_ret2
  have hs := hgrow.size
  have hb : Below w.heap.size w w1 := ⟨hgrow.os, hgrow.tape, hgrow.output, hgrow.size, fun k hk => hgrow.block k hk (by simp)⟩
  rw [made_secs] at hown
  refine ⟨_, _, rfl, ⟨.slice (some ⟨w.heap.size, 0, none⟩) n n, .slice none 0 0, w1.heap.size, ⟨?_, ?_, World.ownsRow_nil _ _ _ _, ?_, by omega, hs⟩, rfl⟩, ?_⟩
  · have := heap_alloc_new (w1.alloc (.map #[] 0)) (.cells (dcells (.slice (some ⟨w.heap.size, 0, none⟩) n n) (.slice none 0 0) w1.heap.size (Dk.new n)).toArray 72)
    rwa [World.size_alloc] at this
  · show World.ownsRow _ _ _ _ _ (List.replicate n zeroSec).length (secs (List.replicate n zeroSec))
    rw [List.length_replicate]
    exact (hown.alloc _).alloc _
  · exact (World.ownsMap_made w1 _ _ _).alloc _
  · exact (hb.alloc hs _).alloc (by rw [World.size_alloc]; omega) _
end Go.Proofs.Ytoiphbdmmiikaaa
namespace Go.Proofs.Ytoiphbdmmiikaaa
open Go.RowKit Go.Maps
set_option linter.unusedVariables false

theorem Try.zeroS : (Try.prog.info? 24).bind (·.zero) = some (.agg zeroSec.cs.toArray) := by kernel_rfl
theorem zeroSv (w : World) : (zeroValue 24).run Try.prog w = .ok (.agg zeroSec.cs.toArray) w := by kernel_rfl
theorem zero3 (w : World) : (zeroValue 3).run Try.prog w = .ok (.int .i64 0) w := by kernel_rfl
theorem keyed3 : Keyed Try.prog 3 := int_keyed Try.underlying3
theorem sec_size (s : Sec) : (Try.prog.info? 24).map (·.size) = some s.cs.length := by rw [Sec.cs_length]; exact Try.sizeSec
theorem sec_size' (s : Sec) : (Try.prog.info? 24).map (·.size) = some s.cs.toArray.size := by rw [List.size_toArray]; exact sec_size s
theorem sec_all (s : Sec) : s.cs.toArray.all (·.oneCell') = true := all_oneCell_toArray s.one

theorem sec_same (s t : Sec) : s.cs.toArray.size = t.cs.toArray.size := by rw [List.size_toArray, List.size_toArray, Sec.cs_length, Sec.cs_length]
/-- What a look into the map of the last writes answers. -/
theorem look_run {w : World} {base g bm : Nat} {vd vw : Value} {d : Dk} (h : DiskAt w base g vd vw bm d) (hk : d.Ok) (i : Nat) (hi : i < d.dur.length) :
    (∃ (j : Nat) (c : Chg), d.wait[j]? = some c ∧ c.2 = Dk.look d.dur d.wait i ∧ (Instr.lookup 69 (.map (some bm)) (.int .i64 (i : Int)) true).run Try.prog w = .ok (.tuple #[.int .i64 (j : Int), .bool true]) w) ∨
    (∃ z, Dk.look d.dur d.wait i = d.dur.getD i zeroSec ∧ (Instr.lookup 69 (.map (some bm)) (.int .i64 (i : Int)) true).run Try.prog w = .ok (.tuple #[z, .bool false]) w) := by
  have hd := hk.dur
  obtain ⟨v, ps, hrun, hv⟩ := h.map.look_ok keyed3 Try.underlying69 (zero3 w) (plainElem_int Try.underlying3 (by decide)) (keyOf_int_mk Try.underlying3 (a := (i : Int)) (WalkArith.wf_i64 (by omega)))
  obtain ⟨c, rfl, hc, hwc⟩ := plainElem_int_inv Try.underlying3 hv
  rcases lastD_tells d.dur d.wait i with ⟨h1, j, ch, h2, h3, h4⟩ | ⟨h1, h2⟩
  · rw [h1] at hrun
    rw [h3] at hc
    have e : c = (j : Int) := by
      have := congrArg Prod.fst hc
      simp at this
      exact this.symm
    subst e
    exact .inl ⟨j, ch, h2, h4, hrun⟩
  · rw [h1] at hrun
    exact .inr ⟨_, h2, hrun⟩

set_option maxRecDepth 100000 in
set_option maxHeartbeats 2000000 in
theorem dread_any (w : World) (base g bm : Nat) (vd vw : Value) (d : Dk) (x : Int) (hk : d.Ok) (h : DiskAt w base g vd vw bm d) :
    Calls Try.prog 34 #[.pointer (some ⟨g, 0, none⟩), .int .i64 x] w fun e w' => e = .returned (.tuple #[(d.read x).1.val, .int .i64 (d.read x).2]) ∧ Below w.heap.size w w' := by
  have Hk := Lib.hid hk
  have HD := Lib.hid h
  clear h hk
  cases hh : d.has x
  · have Hv : Hid (d.read x = (zeroSec, 2)) := by show _ = _; simp [Dk.read, hh]
    go_enter Try.func34, Try.ntmps34
    go_wp2_with ((with_reducible refine at_alloc 24 ?_); refine wpList_alloc_rowV rfl 24 rfl zeroSec.cs Try.zeroS ?_; intro w1 hr1 hb1 hs1)
    refine (dhas_any w1 base g bm vd vw d x (HD.out.below hb1)).mono ?_
    rintro e w2 ⟨rfl, rfl⟩
    rw [hh]
    have hz := zeroSv
    go_wp2_with (((with_reducible refine at_store 24 ?_); refine wpList_store_row rfl 24 _ _ rfl w.heap.size zeroSec.cs.toArray rfl rfl 24 zeroSec.cs.toArray hr1 (sec_size' _) rfl (sec_all _) ?_))
    clear hz
    exact bodyPost_ret (results_cell_tmp (fn := Try.f34) rfl _ _ w.heap.size 24 _ (0, 0) _ rfl (.int .i64 2) rfl (hr1.put zeroSec.cs) Try.underlying24 rfl (sec_size' _)) rfl ⟨by rw [Hv.out]; rfl, below_put hb1 (Nat.le_refl _) _⟩
  · have hx : 0 ≤ x ∧ x < d.dur.length := by simpa [Dk.has] using hh
    obtain ⟨i, rfl⟩ := Int.eq_ofNat_of_zero_le hx.1
    have hi : i < d.dur.length := by omega
    clear hx
    cases hdn : d.down
    · have Hv : Hid (d.read (i : Int) = (Dk.look d.dur d.wait i, 0)) := by show _ = _; simp [Dk.read, hh, hdn]
      go_enter Try.func34, Try.ntmps34
      go_wp2_with ((with_reducible refine at_alloc 24 ?_); refine wpList_alloc_rowV rfl 24 rfl zeroSec.cs Try.zeroS ?_; intro w1 hr1 hb1 hs1)
      have HD1 := Lib.hid (HD.out.below hb1)
      refine (dhas_any w1 base g bm vd vw d (i : Int) HD1.out).mono ?_
      rintro e w2 ⟨rfl, rfl⟩
      rw [hh]
      have c6 := HD1.out.c6
      rw [hdn] at c6
      have c2 := HD1.out.c2
      rcases look_run HD1.out Hk.out i hi with ⟨j, c, hj, hc, hl⟩ | ⟨z, hc, hl⟩
      · have hjl : j < d.wait.length := (List.getElem?_eq_some_iff.1 hj).1
        have c1 := HD1.out.c1
        obtain ⟨gw, cap, rfl, _, _, _, _⟩ := own_form HD1.out.wait (by omega)
        have hr := chg_sec HD1.out.wait hj
        have hjl' : (j : Int) < (d.wait.length : Int) := by omega
        have hj0 : (0 : Int) ≤ (j : Int) := by omega
        have Hc := Lib.hid hc
        have Hs := Lib.hid (sec_size c.2)
        clear hi hj hc hjl HD
        generalize d.wait.length = n at *
        go_wp2_with (first
          | ((with_reducible refine at_load 24 ?_); refine wpList_load_mid rfl 24 _ rfl gw (j * 257 + 1) rfl c.2.cs _ hr Try.underlying24 rfl Hs.out ?_)
          | ((with_reducible refine at_store 24 ?_); refine wpList_store_row rfl 24 _ _ rfl w.heap.size c.2.cs.toArray rfl rfl 24 zeroSec.cs.toArray hr1 (sec_size' _) (sec_same _ _) (sec_all _) ?_))
        exact bodyPost_ret (results_cell_tmp (fn := Try.f34) rfl _ _ w.heap.size 24 _ (0, 0) _ rfl (.int .i64 0) rfl (hr1.put c.2.cs) Try.underlying24 rfl (sec_size' _)) rfl ⟨by rw [Hv.out, ← Hc.out]; rfl, below_put hb1 (Nat.le_refl _) _⟩
      · have c0 := HD1.out.c0
        obtain ⟨gd, cap, rfl, _, _, _, _⟩ := own_form HD1.out.dur (by omega)
        have hget : d.dur[i]? = some (d.dur.getD i zeroSec) := by rw [List.getD_eq_getElem?_getD, List.getElem?_eq_getElem hi]; rfl
        have hr := sec_range HD1.out.dur hget
        generalize d.dur.getD i zeroSec = s at *
        have hi' : (i : Int) < (d.dur.length : Int) := by omega
        have hi0 : (0 : Int) ≤ (i : Int) := by omega
        have Hc := Lib.hid hc
        have Hs := Lib.hid (sec_size s)
        clear hi hc HD hget
        generalize d.dur.length = n at *
        go_wp2_with (first
          | ((with_reducible refine at_load 24 ?_); refine wpList_load_mid rfl 24 _ rfl gd (i * 256) rfl s.cs _ hr Try.underlying24 rfl Hs.out ?_)
          | ((with_reducible refine at_store 24 ?_); refine wpList_store_row rfl 24 _ _ rfl w.heap.size s.cs.toArray rfl rfl 24 zeroSec.cs.toArray hr1 (sec_size' _) (sec_same _ _) (sec_all _) ?_))
        exact bodyPost_ret (results_cell_tmp (fn := Try.f34) rfl _ _ w.heap.size 24 _ (0, 0) _ rfl (.int .i64 0) rfl (hr1.put s.cs) Try.underlying24 rfl (sec_size' _)) rfl ⟨by rw [Hv.out, Hc.out]; rfl, below_put hb1 (Nat.le_refl _) _⟩
    · have Hv : Hid (d.read (i : Int) = (zeroSec, 4)) := by show _ = _; simp [Dk.read, hh, hdn]
      go_enter Try.func34, Try.ntmps34
      go_wp2_with ((with_reducible refine at_alloc 24 ?_); refine wpList_alloc_rowV rfl 24 rfl zeroSec.cs Try.zeroS ?_; intro w1 hr1 hb1 hs1)
      have HD1 := Lib.hid (HD.out.below hb1)
      refine (dhas_any w1 base g bm vd vw d (i : Int) HD1.out).mono ?_
      rintro e w2 ⟨rfl, rfl⟩
      rw [hh]
      have c6 := HD1.out.c6
      rw [hdn] at c6
      have hz := zeroSv
      go_wp2_with (((with_reducible refine at_store 24 ?_); refine wpList_store_row rfl 24 _ _ rfl w.heap.size zeroSec.cs.toArray rfl rfl 24 zeroSec.cs.toArray hr1 (sec_size' _) rfl (sec_all _) ?_))
      exact bodyPost_ret (results_cell_tmp (fn := Try.f34) rfl _ _ w.heap.size 24 _ (0, 0) _ rfl (.int .i64 4) rfl (hr1.put zeroSec.cs) Try.underlying24 rfl (sec_size' _)) rfl ⟨by rw [Hv.out]; rfl, below_put hb1 (Nat.le_refl _) _⟩
end Go.Proofs.Ytoiphbdmmiikaaa
