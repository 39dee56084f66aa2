/-
  Layer 8: a disk that lives from 'base' on, through the rounds of SuperBumps.
-/
import Derived.Test.YtoiphbdmmiikaaaSupW
import Derived.Test.YtoiphbdmmiikaaaDiskCr
namespace Go.Proofs.Ytoiphbdmmiikaaa
open Go.RowKit
set_option linter.unusedVariables false
set_option linter.unusedSimpArgs false

theorem bools_one8 (w : World) (L : List Nat) (b : Bool) (hL : ∀ k ∈ L, k < w.heap.size) : Bools (w.alloc (.cells #[.bool b] 4)) L (.slice (some ⟨w.heap.size, 0, none⟩) 1 1) [b] :=
  ⟨_, 1, rfl, by simp, by simp, LiesV.lit w #[.bool b] 4 _ (by simp), fun _ a ha hm => by injection ha with ha; subst ha; have h1 : w.heap.size < w.heap.size := hL _ hm; omega⟩

/-- The disk d lives in W from base on; below it all is as in w0. -/
structure Liv (w0 : World) (base g : Nat) (W : World) (d : Dk) : Prop where
  disk : ∃ L, Disk W base L g d
  size : base ≤ W.heap.size
  low : Below base w0 W
section
variable {w0 w w' : World} {base g : Nat} {d : Dk}
theorem Liv.below (h : Liv w0 base g w d) (hb : Below w.heap.size w w') : Liv w0 base g w' d := by
  obtain ⟨L, hD⟩ := h.disk
  exact ⟨⟨L, hD.below hb⟩, Nat.le_trans h.size hb.size, h.low.trans (hb.mono h.size)⟩
theorem Liv.turned {d' : Dk} {L : List Nat} (h : Liv w0 base g w d) (hD : Disk w base L g d) (ht : Turned w base L g d' w') : Liv w0 base g w' d' := by
  obtain ⟨h1, h2⟩ := Turned.low hD h.size ht
  exact ⟨h1, Nat.le_trans h.size h2.size, h.low.trans h2⟩
/-- An object made and stored behind. -/
theorem Liv.made {w2 : World} {G : Nat} (h : Liv w0 base g w d) (hG : w.heap.size = G) (hb : Below G w w') (hg : w'.grownBy w2 (some G)) : Liv w0 base g w2 d :=
  h.below (by rw [hG]; exact below_grown hb hg (Nat.le_refl _) (by have := hb.size; omega))

theorem liv_fuse (h : Liv w0 base g w d) (x : Int) : Calls Try.prog 16 #[.pointer (some ⟨g, 0, none⟩), .int .i64 x] w fun e w' => e = .returned (.tuple #[]) ∧ Liv w0 base g w' (d.setFuse x) := by
  obtain ⟨L, vd, vw, bm, hD, rfl⟩ := h.disk
  refine (dfuse_any w base g bm vd vw d x hD).mono ?_
  rintro e w1 ⟨rfl, h1, h2⟩
  have hbb : Below base w w1 := below_grown (Below.refl _ _) h2 hD.hg h.size
  exact ⟨rfl, ⟨_, vd, vw, bm, h1, rfl⟩, Nat.le_trans h.size hbb.size, h.low.trans hbb⟩
theorem liv_write (h : Liv w0 base g w d) (x : Int) (s : Sec) (hk : d.Ok) (hw : d.wait.length < 1000000) : Calls Try.prog 14 #[.pointer (some ⟨g, 0, none⟩), .int .i64 x, .agg s.cs.toArray] w fun e w' => e = .returned (.int .i64 (d.write x s).2) ∧ Liv w0 base g w' (d.write x s).1 := by
  obtain ⟨L, hD⟩ := h.disk
  refine (dwrite_any w base g L d x s hk hw hD h.size).mono ?_
  rintro e w1 ⟨rfl, h1⟩
  exact ⟨rfl, h.turned hD h1⟩
theorem liv_flush (h : Liv w0 base g w d) (hk : d.Ok) : Calls Try.prog 15 #[.pointer (some ⟨g, 0, none⟩)] w fun e w' => e = .returned (.int .i64 d.flush.2) ∧ Liv w0 base g w' d.flush.1 := by
  obtain ⟨L, hD⟩ := h.disk
  refine (dflush_any w base g L d hk hD).mono ?_
  rintro e w1 ⟨rfl, h1⟩
  exact ⟨rfl, h.turned hD h1⟩
theorem liv_crash (h : Liv w0 base g w d) (hk : d.Ok) (b : Bool) : Calls Try.prog 18 #[.pointer (some ⟨g, 0, none⟩), .slice (some ⟨w.heap.size, 0, none⟩) 1 1] (w.alloc (.cells #[.bool b] 4)) fun e w' => e = .returned (.int .i64 (d.crash [b]).2) ∧ Liv w0 base g w' (d.crash [b]).1 := by
  obtain ⟨L, hD⟩ := h.disk
  have hba : Below w.heap.size w (w.alloc (.cells #[.bool b] 4)) := (Below.refl _ _).alloc (Nat.le_refl _) _
  refine (dcrash_any _ base g L d [b] _ hk (hD.below hba) (bools_one8 w L b (fun k hk => (hD.lt hk).2))).mono ?_
  rintro e w1 ⟨rfl, h1⟩
  exact ⟨rfl, (h.below hba).turned (hD.below hba) h1⟩

/-! ### What is read -/
theorem SupAt.reads {b : Sb} {k : Nat} (h : SupAt d b k) (x : Int) : (d.setFuse x).read 0 = (d.dur.getD 0 zeroSec, 0) ∧ (d.setFuse x).read 1 = (d.dur.getD 1 zeroSec, 0) := by
  have h1 := h.up
  have h2 := h.wait
  have h3 := h.len
  obtain ⟨dur, wait, steps, fuse, down⟩ := d
  simp only at h1 h2 h3
  subst h1 h2
  simp [Dk.read, Dk.setFuse, Dk.has, h3, Dk.look]
theorem SupAt.reads0 {b : Sb} {k : Nat} (h : SupAt d b k) : d.read 0 = (d.dur.getD 0 zeroSec, 0) ∧ d.read 1 = (d.dur.getD 1 zeroSec, 0) := by
  have h1 := h.up
  have h2 := h.wait
  have h3 := h.len
  obtain ⟨dur, wait, steps, fuse, down⟩ := d
  simp only at h1 h2 h3
  subst h1 h2
  simp [Dk.read, Dk.setFuse, Dk.has, h3, Dk.look]
theorem liv_read {b : Sb} {k : Nat} (h : Liv w0 base g w d) (hk : d.Ok) (hs : SupAt d b k) : Calls Try.prog 19 #[.pointer (some ⟨g, 0, none⟩)] w fun e w' => e = .returned (.tuple #[.agg (sbc b).toArray, .int .i64 (k : Int), .int .i64 0]) ∧ Liv w0 base g w' d := by
  obtain ⟨L, hD⟩ := h.disk
  refine (sread_any w base g L d _ _ hk hD hs.reads0.1 hs.reads0.2).mono ?_
  rintro e w1 ⟨rfl, h1⟩
  rw [cho_some hs.read]
  exact ⟨rfl, h.below h1⟩
theorem liv_bump {b : Sb} {k n : Nat} (hs : SupAt d b k) (x : Nat) (hx : x < 4) (h : Liv w0 base g w (d.setFuse (x : Int))) (hk : d.Ok) (hst : d.steps ≤ n) (hn : n < 900000) (hb : b.next.ok = true) :
    Calls Try.prog 17 #[.pointer (some ⟨g, 0, none⟩)] w fun e w' => e = .returned (.tuple #[.agg (sbc (bumpV ((d.setFuse (x : Int)).bumped b k) b)).toArray, .int .i64 (bumpC ((d.setFuse (x : Int)).bumped b k))]) ∧ Liv w0 base g w' ((d.setFuse (x : Int)).bumped b k).1 := by
  obtain ⟨L, hD⟩ := h.disk
  refine (sbump_yes w base g L (d.setFuse (x : Int)) _ _ b k (setFuse_ok hk (by omega)) (show d.steps < _ by omega) (show d.wait.length < _ by rw [hs.wait]; decide) hD h.size (hs.reads _).1 (hs.reads _).2 hs.read hb).mono ?_
  rintro e w1 ⟨rfl, h1⟩
  exact ⟨rfl, h.turned hD h1⟩
end

/-- The disk behind a mount. -/
theorem bumped_ok {d : Dk} {b : Sb} {k n : Nat} (hs : SupAt d b k) (x : Nat) (hx : x < 4) (hk : d.Ok) (hst : d.steps ≤ n) (hn : n < 900000) : ((d.setFuse (x : Int)).bumped b k).1.Ok ∧ ((d.setFuse (x : Int)).bumped b k).1.steps ≤ n + 2 := by
  have h0 := setFuse_ok hk (x := (x : Int)) (by omega)
  have hw : (d.setFuse (x : Int)).wait.length ≤ n := by show d.wait.length ≤ n; rw [hs.wait]; exact Nat.zero_le _
  obtain ⟨a1, a2, a3, a4⟩ := write_ok (x := ((1 - k : Nat) : Int)) (s := b.next.sec) h0 (show (d.setFuse (x : Int)).steps ≤ n from hst) hw (by omega)
  unfold Dk.bumped
  dsimp only
  split
  · obtain ⟨b1, b2, b3, b4⟩ := flush_ok a1 a2 a3 (by omega)
    exact ⟨b1, b2⟩
  · exact ⟨a1, Nat.le_succ_of_le a2⟩
/-- A round: what is told behind the crash. -/
theorem round_sup {d : Dk} {s t c a m : Int} {k n : Nat} (hs : SupAt d ⟨s, t, c, a, m⟩ k) (hok : (Sb.mk s t c a (m + 1)).ok = true) (x : Nat) (hx : x < 4) (keep : Bool) (hk : d.Ok) (hst : d.steps ≤ n) (hn : n < 900000) :
    ∃ (e : Dk) (m' cd : Int) (k' : Nat), (((d.setFuse (x : Int)).bumped ⟨s, t, c, a, m⟩ k).1.crash [keep]).1 = e ∧ bumpC ((d.setFuse (x : Int)).bumped ⟨s, t, c, a, m⟩ k) = cd ∧ SupAt e ⟨s, t, c, a, m'⟩ k' ∧ e.Ok ∧ e.steps ≤ n + 2 ∧ ((cd = 0 ∧ m' = m + 1) ∨ (cd = 4 ∧ (m' = m ∨ m' = m + 1))) := by
  obtain ⟨o1, o2⟩ := bumped_ok hs x hx hk hst hn
  obtain ⟨q1, q2, _, _⟩ := crash_ok (keep := [keep]) o1
  rcases hs.crashed hok x keep with ⟨h1, h2⟩ | ⟨h1, h2 | h2⟩
  · exact ⟨_, m + 1, 0, 1 - k, rfl, by rw [bumpC, h1]; rfl, h2, q1, by rw [q2]; exact o2, .inl ⟨rfl, rfl⟩⟩
  · exact ⟨_, m, 4, k, rfl, by rw [bumpC, h1]; rfl, h2, q1, by rw [q2]; exact o2, .inr ⟨rfl, .inl rfl⟩⟩
  · exact ⟨_, m + 1, 4, 1 - k, rfl, by rw [bumpC, h1]; rfl, h2, q1, by rw [q2]; exact o2, .inr ⟨rfl, .inr rfl⟩⟩

/-! ### The disk at the start -/
def p1 (x : Sec) : Dk := ⟨List.replicate 9 zeroSec, [(0, x)], 1, none, false⟩
def p2 (x : Sec) : Dk := ⟨x :: List.replicate 8 zeroSec, [], 2, none, false⟩
theorem p1_eq (x : Sec) : (Dk.new 9).write 0 x = (p1 x, 0) := rfl
theorem p2_eq (x : Sec) : (p1 x).flush = (p2 x, 0) := rfl
theorem p0_ok : (Dk.new 9).Ok := new_ok (by omega) (by omega)
theorem p1_ok (x : Sec) : (p1 x).Ok := by
  have := (write_ok (x := 0) (s := x) (k := 0) p0_ok (Nat.le_refl _) (Nat.le_refl _) (by omega)).1
  rwa [p1_eq] at this
theorem p2_ok (x : Sec) : (p2 x).Ok := by
  have := (flush_ok (k := 1) (p1_ok x) (Nat.le_refl _) (Nat.le_refl _) (by omega)).1
  rwa [p2_eq] at this
theorem p2_sup {b : Sb} (h : b.ok = true) : SupAt (p2 b.sec) b 0 :=
  ⟨rfl, rfl, rfl, rfl, by show chooseS b.sec zeroSec = _; unfold chooseS; rw [getS_sec h, get_zero]⟩
end Go.Proofs.Ytoiphbdmmiikaaa
