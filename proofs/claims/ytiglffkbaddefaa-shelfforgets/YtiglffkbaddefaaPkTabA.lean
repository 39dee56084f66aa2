/-
  Layer 11: a table in memory; the contracts of Size, empty, after, home, distance, displaced, valid.
-/
import Derived.Test.YtiglffkbaddefaaPkTabQ
import Derived.Test.YtiglffkbaddefaaPkHomeC
import Derived.Test.YtiglffkbaddefaaPkLessC
import Derived.Test.YtiglffkbaddefaaPkSlot
import Derived.Test.YtiglffkbaddefaaPkPut
import Derived.Test.YtiglffkbaddefaaPkRowR
namespace Go.Proofs.Ytiglffkbaddefaa
open Go.RowKit
set_option linter.unusedVariables false

/-- An address as a value. -/
def Adr.val (a : Adr) : Value := .agg (cells a.1).toArray
/-- The table at block b: its n places in block g. -/
structure TabAt (w : World) (b g c n : Nat) (l : List Ent) : Prop where
  ptr : One w b (.slice (some ⟨g, 0, none⟩) n c) 59
  row : w.ownsRow 0 32 34 (.slice (some ⟨g, 0, none⟩) n c) n (ents l)
  len : l.length = n
  pos : 0 < n
  le : n ≤ 406

section
variable {w w' : World} {b g c n : Nat} {l : List Ent}
theorem TabAt.blt (h : TabAt w b g c n l) : b < w.heap.size := h.ptr.lt
theorem TabAt.glt (h : TabAt w b g c n l) : g < w.heap.size := own_lt h.row rfl
theorem TabAt.ne (h : TabAt w b g c n l) : b ≠ g := by
  rintro rfl
  have h1 : RowV w b 59 [.slice (some ⟨b, 0, none⟩) n c] := h.ptr
  exact own_row_apart h.row h1 (by decide) rfl
theorem TabAt.cap (h : TabAt w b g c n l) : n ≤ c ∧ c ≤ maxLen := by
  obtain ⟨A, c', hv, h1, h2⟩ := own_slice h.row
  injection hv with _ _ h3
  subst h3
  exact ⟨h1, h2⟩
theorem TabAt.get (h : TabAt w b g c n l) {k : Nat} (hk : k < n) : ∃ e, l[k]? = some e := ⟨_, List.getElem?_eq_getElem (by rw [h.len]; exact hk)⟩
theorem TabAt.below {B : Nat} (h : TabAt w b g c n l) (hB : Below B w w') (h1 : b < B) (h2 : g < B) : TabAt w' b g c n l :=
  ⟨h.ptr.below hB h1, own_but h.row (But.of [] hB) (fun k e => by cases e; exact ⟨h2, by simp⟩), h.len, h.pos, h.le⟩
theorem TabAt.later (h : TabAt w b g c n l) (hB : Below w.heap.size w w') : TabAt w' b g c n l := h.below hB h.blt h.glt
theorem TabAt.but {L : List Nat} {B : Nat} (h : TabAt w b g c n l) (hB : But L B w w') (h1 : b < B) (h2 : g < B) (hb : b ∉ L) (hg : g ∉ L) : TabAt w' b g c n l :=
  ⟨h.ptr.but hB h1 hb, own_but h.row hB (fun k e => by cases e; exact ⟨h2, hg⟩), h.len, h.pos, h.le⟩
theorem TabAt.keep (h : TabAt w b g c n l) {row : Option Nat} (hg : w.grownBy w' row) (hb : row ≠ some b) (hr : row ≠ some g) : TabAt w' b g c n l :=
  ⟨(hg.block b h.blt (fun e => hb e.symm)).trans h.ptr, h.row.kept hg (.inr (fun e => hr e.symm)), h.len, h.pos, h.le⟩
theorem TabAt.drew (h : TabAt w b g c n l) : TabAt w.drew b g c n l := ⟨h.ptr, h.row, h.len, h.pos, h.le⟩
/-- One place written. -/
theorem TabAt.set (h : TabAt w b g c n l) {k : Nat} (hk : k < n) (e : Ent) : TabAt (w.setCells g (k * 34) e.cs) b g c n (l.set k e) ∧ w.grownBy (w.setCells g (k * 34) e.cs) (some g) := by
  have hx : (ents l).length = n * 34 := by rw [ents_length, h.len]
  have h1 := own_put e.cs (k * 34) w (ents l) h.row (by rw [Ent.cs_length]; omega)
  rw [ents_put (by rw [h.len]; exact hk)] at h1
  exact ⟨⟨(h1.2.block b h.blt (by simp; exact h.ne)).trans h.ptr, h1.1, by rw [List.length_set, h.len], h.pos, h.le⟩, h1.2⟩
theorem TabAt.there (h : TabAt w b g c n l) {k : Nat} (hk : k < n) : w.there g (k * 34) 34 :=
  own_there h.row _ _ (by omega)
end
theorem Try.infoE : (Try.prog.info? 32).map (fun i => (i.zero, i.size, i.bytes)) = some (some (.agg zeroEnt.cs.toArray), 34, 48) := by kernel_rfl
theorem Try.sizeE : (Try.prog.info? 32).map (·.size) = some 34 := by kernel_rfl
theorem ent_size (e : Ent) : (Try.prog.info? 32).map (·.size) = some e.cs.length := by rw [Ent.cs_length]; exact Try.sizeE
theorem Try.zeroA32 : (Try.prog.info? 30).bind (·.zero) = some (.agg (cells zeroAdr.1).toArray) := by kernel_rfl
theorem Try.sizeA32 : (Try.prog.info? 30).map (·.size) = some 32 := by kernel_rfl
theorem adr_size (a : Adr) : (Try.prog.info? 30).map (·.size) = some (cells a.1).length := by rw [cells_length, a.2]; exact Try.sizeA32
theorem home_rule (n : Nat) (hn : 0 < n) (a : Adr) : homeN a.1 (n : Int) = (((ruleT n hn).home a : Nat) : Int) := by
  unfold homeN
  rw [if_neg (by omega), Int.toNat_natCast]
  rfl

set_option maxRecDepth 100000 in
theorem tsize_any (w : World) (b g c n : Nat) (l : List Ent) (h : TabAt w b g c n l) :
    Calls Try.prog 27 #[.pointer (some ⟨b, 0, none⟩)] w fun e w' => e = .returned (.int .i64 (n : Int)) ∧ w' = w := by
  have c0 := h.ptr.cell
  clear h
  go_enter Try.func27, Try.ntmps27
  go_wp2_with fail
  go_ret
  exact ⟨rfl, rfl⟩

set_option maxRecDepth 100000 in
theorem tempty_any (w : World) (b g c n : Nat) (l : List Ent) (h : TabAt w b g c n l) (k : Nat) (e : Ent) (hk : l[k]? = some e) :
    Calls Try.prog 38 #[.pointer (some ⟨b, 0, none⟩), .int .i64 (k : Int)] w fun r w' => r = .returned (.bool (decide (e.count = 0))) ∧ w' = w := by
  have c0 := h.ptr.cell
  have hlt : k < n := by have := (List.getElem?_eq_some_iff.1 hk).1; rw [h.len] at this; exact this
  have c1 := ent_count h.row hk
  have hle := h.le
  have hcap := h.cap
  have hlt' : (k : Int) < (n : Int) := by omega
  clear h hk
  generalize e.count = x at *
  go_enter Try.func38, Try.ntmps38
  go_wp2_with fail
  go_ret
  exact ⟨rfl, rfl⟩

set_option maxRecDepth 100000 in
theorem tafter_any (w : World) (b g c n : Nat) (l : List Ent) (h : TabAt w b g c n l) (k : Nat) (hk : k < n) :
    Calls Try.prog 41 #[.pointer (some ⟨b, 0, none⟩), .int .i64 (k : Int)] w fun r w' => r = .returned (.int .i64 ((nextP n k : Nat) : Int)) ∧ w' = w := by
  have c0 := h.ptr.cell
  have hle := h.le
  have He := Lib.hid (nextP_mod hk)
  have hn := nextP_lt hk
  obtain ⟨r, hr⟩ : ∃ r, (k + 1) % n = r := ⟨_, rfl⟩
  have hri : ((k : Int) + 1) % (n : Int) = (r : Int) := by rw [← hr]; exact (Int.natCast_emod (k + 1) n).symm
  have hro : r ≤ 406 := by have := Nat.mod_lt (k + 1) (show 0 < n by omega); omega
  have Hr := Lib.hid hr
  clear h hr
  go_enter Try.func41, Try.ntmps41
  go_wp2_with fail
  go_ret
  exact ⟨by rw [← He.out, Hr.out, ← hri]; rfl, rfl⟩

set_option maxRecDepth 100000 in
set_option maxHeartbeats 1000000 in
theorem thome_any (w : World) (b g c n : Nat) (hn : 0 < n) (l : List Ent) (h : TabAt w b g c n l) (a : Adr) :
    Calls Try.prog 43 #[.pointer (some ⟨b, 0, none⟩), a.val] w fun r w' => r = .returned (.int .i64 (((ruleT n hn).home a : Nat) : Int)) ∧ Below w.heap.size w w' := by
  have hle := h.le
  have Hh := Lib.hid h
  have Hr := Lib.hid (home_rule n hn a)
  go_enter Try.func43, Try.ntmps43
  go_wp2_with (with_reducible refine at_box 30 ?_; refine wpList_box_rowV rfl 30 _ rfl (cells a.1) rfl ?_)
  intro w1 hr1 hb1 hs1
  have hT1 := Hh.out.later hb1
  have c0 := hT1.ptr.cell
  have Hsz := Lib.hid (adr_size a)
  go_wp2_with fail
  refine wp_region_still_tail 6 (by kernel_rfl) (by kernel_rfl) ?_
  simp only [List.take_succ_cons, List.take_zero, List.drop_succ_cons, List.drop_zero]
  refine wpStill_exec (.agg (cells a.1).toArray) rfl (by refine exec_load_mid 30 (.tmp 3) ?_ w.heap.size 0 ?_ (cells a.1) _ (row_range hr1) Try.underlying30 rfl Hsz.out <;> rfl) ?_
  iterate 5 still_step
  refine wpStill_nil ?_
  change wpList _ _ _ _ _ w1.drew
  go_wp2_with fail
  refine (home_any a.1 a.2 (n : Int) w1.drew (by omega)).mono ?_
  rintro e w2 ⟨rfl, hb2⟩
  go_wp2_with fail
  go_ret
  exact ⟨by rw [Hr.out]; rfl, hb1.drew.trans (hb2.mono (by simp; omega))⟩
end Go.Proofs.Ytiglffkbaddefaa
