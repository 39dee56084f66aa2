/-
  A disk that lives from 'base' on: one contract a call.
-/
import Derived.Test.YtgkmbnmelepenaaPkDiskIm
import Derived.Test.YtgkmbnmelepenaaPkSlot
namespace Go.Proofs.Ytgkmbnmelepenaa
open Go.RowKit
set_option linter.unusedVariables false

theorem Turned.low {w w' : World} {base g : Nat} {L : List Nat} {d d' : Dk} (h : Disk w base L g d) (hB : base ≤ w.heap.size) (ht : Turned w base L g d' w') : (∃ L', Disk w' base L' g d') ∧ Below base w w' := by
  obtain ⟨L', h1, h2, _⟩ := ht
  exact ⟨⟨L', h1⟩, (h2.less hB).below (fun k hk => (h.lt hk).1)⟩
theorem bools_one8 (w : World) (L : List Nat) (b : Bool) (hL : ∀ k ∈ L, k < w.heap.size) : Bools (w.alloc (.cells #[.bool b] 4)) L (.slice (some ⟨w.heap.size, 0, none⟩) 1 1) [b] :=
  ⟨_, 1, rfl, by simp, by simp, LiesV.lit w #[.bool b] 4 _ (by simp), fun _ a ha hm => by injection ha with ha; subst ha; have h1 : w.heap.size < w.heap.size := hL _ hm; omega⟩

/-- The disk d lives in W from base on; below it all is as in w0. -/
structure Liv (w0 : World) (base g : Nat) (W : World) (d : Dk) : Prop where
  disk : ∃ L, Disk W base L g d
  size : base ≤ W.heap.size
  low : Below base w0 W
section
variable {w0 w w' : World} {base g : Nat} {d : Dk}
theorem Liv.below (h : Liv w0 base g w d) (hb : Below w.heap.size w w') : Liv w0 base g w' d := by
  obtain ⟨L, hD⟩ := h.disk
  exact ⟨⟨L, hD.below hb⟩, Nat.le_trans h.size hb.size, h.low.trans (hb.mono h.size)⟩
theorem Liv.turned {d' : Dk} {L : List Nat} (h : Liv w0 base g w d) (hD : Disk w base L g d) (ht : Turned w base L g d' w') : Liv w0 base g w' d' := by
  obtain ⟨h1, h2⟩ := Turned.low hD h.size ht
  exact ⟨h1, Nat.le_trans h.size h2.size, h.low.trans h2⟩
/-- An object made and stored behind. -/
theorem Liv.made {w2 : World} {G : Nat} (h : Liv w0 base g w d) (hG : w.heap.size = G) (hb : Below G w w') (hg : w'.grownBy w2 (some G)) : Liv w0 base g w2 d :=
  h.below (by rw [hG]; exact below_grown hb hg (Nat.le_refl _) (by have := hb.size; omega))

theorem liv_fuse (h : Liv w0 base g w d) (x : Int) : Calls Try.prog 21 #[.pointer (some ⟨g, 0, none⟩), .int .i64 x] w fun e w' => e = .returned (.tuple #[]) ∧ Liv w0 base g w' (d.setFuse x) := by
  obtain ⟨L, vd, vw, bm, hD, rfl⟩ := h.disk
  refine (dfuse_any w base g bm vd vw d x hD).mono ?_
  rintro e w1 ⟨rfl, h1, h2⟩
  have hbb : Below base w w1 := below_grown (Below.refl _ _) h2 hD.hg h.size
  exact ⟨rfl, ⟨_, vd, vw, bm, h1, rfl⟩, Nat.le_trans h.size hbb.size, h.low.trans hbb⟩
theorem liv_write (h : Liv w0 base g w d) (x : Int) (s : Sec) (hk : d.Ok) (hw : d.wait.length < 1000000) : Calls Try.prog 52 #[.pointer (some ⟨g, 0, none⟩), .int .i64 x, .agg s.cs.toArray] w fun e w' => e = .returned (.int .i64 (d.write x s).2) ∧ Liv w0 base g w' (d.write x s).1 := by
  obtain ⟨L, hD⟩ := h.disk
  refine (dwrite_any w base g L d x s hk hw hD h.size).mono ?_
  rintro e w1 ⟨rfl, h1⟩
  exact ⟨rfl, h.turned hD h1⟩
theorem liv_flush (h : Liv w0 base g w d) (hk : d.Ok) : Calls Try.prog 50 #[.pointer (some ⟨g, 0, none⟩)] w fun e w' => e = .returned (.int .i64 d.flush.2) ∧ Liv w0 base g w' d.flush.1 := by
  obtain ⟨L, hD⟩ := h.disk
  refine (dflush_any w base g L d hk hD).mono ?_
  rintro e w1 ⟨rfl, h1⟩
  exact ⟨rfl, h.turned hD h1⟩
theorem liv_crash (h : Liv w0 base g w d) (hk : d.Ok) (b : Bool) : Calls Try.prog 22 #[.pointer (some ⟨g, 0, none⟩), .slice (some ⟨w.heap.size, 0, none⟩) 1 1] (w.alloc (.cells #[.bool b] 4)) fun e w' => e = .returned (.int .i64 (d.crash [b]).2) ∧ Liv w0 base g w' (d.crash [b]).1 := by
  obtain ⟨L, hD⟩ := h.disk
  have hba : Below w.heap.size w (w.alloc (.cells #[.bool b] 4)) := (Below.refl _ _).alloc (Nat.le_refl _) _
  refine (dcrash_any _ base g L d [b] _ hk (hD.below hba) (bools_one8 w L b (fun k hk => (hD.lt hk).2))).mono ?_
  rintro e w1 ⟨rfl, h1⟩
  exact ⟨rfl, (h.below hba).turned (hD.below hba) h1⟩

end
end Go.Proofs.Ytgkmbnmelepenaa
