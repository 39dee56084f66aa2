/-
  Layer 13: what lives while the chunks are gone through and something of each is appended to a row made ahead of the loop with room for all.
-/
import Derived.Test.YtmcbpifkclhfiaaDoorPkChkB
namespace Go.Proofs.YtmcbpifkclhfiaaDoor
open Go.RowKit Go.Shelf
set_option linter.unusedVariables false

/-- Between two rounds: block K holds what was appended (f of each), block N is the slice's box. -/
structure LoopK (K N a : Nat) (A : Option Addr) (c : Nat) (b : List UInt8) (M : Nat) (T E : TypeId) (size : Nat) (f : KEl → List Value) (w : World) (pre : List KEl) (W : World) : Prop where
  box : One W N (.slice (some ⟨K, 0, none⟩) pre.length (countK b.length)) T
  row : W.ownsRow K E size (.slice (some ⟨K, 0, none⟩) pre.length (countK b.length)) pre.length (pre.flatMap f)
  el : ∀ x ∈ pre, KEl.at_ M b x W
  text : TextAt W a A c b
  below : Below K w W
  size_ : M ≤ W.heap.size
section
variable {K N a : Nat} {A : Option Addr} {c : Nat} {b : List UInt8} {M : Nat} {T E : TypeId} {size : Nat} {f : KEl → List Value} {w : World} {pre : List KEl} {W W' : World}
theorem TextAt.stays {B : Nat} (h : TextAt W a A c b) (hs : Stays10 B W W') : TextAt W' a A c b := ⟨hs.one h.box, hs.own h.row, h.le⟩
theorem LoopK.stays {B : Nat} (h : LoopK K N a A c b M T E size f w pre W) (hK : K ≤ B) (hw : K ≤ w.heap.size) (hs : Stays10 B W W') : LoopK K N a A c b M T E size f w pre W' :=
  ⟨hs.one h.box, hs.own h.row, fun x hx => ⟨(h.el x hx).1, hs.own (h.el x hx).2⟩, h.text.stays hs, hs.bel hK hw h.below, Nat.le_trans h.size_ hs.size⟩
theorem KEl.at_.but {x : KEl} {L : List Nat} (h : x.at_ M b W) (hb : But L W.heap.size W W') (hL : ∀ k ∈ L, k < M) : x.at_ M b W' :=
  ⟨h.1, own_but h.2 hb (fun k hk => ⟨own_lt h.2 hk, fun hm => by have := own_ge h.2 k hk; have := hL k hm; omega⟩)⟩
theorem KeepsL.of_but {L L' : List Nat} (hb : But L' W.heap.size W W') (hL : ∀ k ∈ L, k < W.heap.size ∧ k ∉ L') : KeepsL L W W' := fun k hk => hb.block k (hL k hk).1 (hL k hk).2
theorem KeepsFrom.of_but {L : List Nat} {B : Nat} (hb : But L W.heap.size W W') (hL : ∀ k ∈ L, k < B) : KeepsFrom B W W' :=
  ⟨hb.size, fun k o hB hk _ => (hb.block k (Array.getElem?_eq_some_iff.1 hk).1 (fun hm => by have := hL k hm; omega)).trans hk⟩
/-- A round: x has come, something was appended. -/
theorem LoopK.round {x : KEl} (h : LoopK K N a A c b M T E size f w pre W) (hx : x.at_ M b W) (hN : K ≤ N) (hM : N < M) (hw : K ≤ w.heap.size) (ht : ∀ k ∈ tblk a A, N < k)
    (hb : But [K, N] W.heap.size W W') (hbox : One W' N (.slice (some ⟨K, 0, none⟩) (pre.length + 1) (countK b.length)) T)
    (hrow : W'.ownsRow K E size (.slice (some ⟨K, 0, none⟩) (pre.length + 1) (countK b.length)) (pre.length + 1) (pre.flatMap f ++ f x)) :
    KeepsFrom M W W' ∧ KeepsS (tblk a A) W W' ∧ LoopK K N a A c b M T E size f w (pre ++ [x]) W' := by
  have hL : ∀ k ∈ [K, N], k < M := by
    intro k hk
    simp only [List.mem_cons, List.not_mem_nil, or_false] at hk
    omega
  have hk : KeepsL (tblk a A) W W' := KeepsL.of_but hb (fun k hk => ⟨h.text.lt k hk, fun hm => by
    have := ht k hk
    simp only [List.mem_cons, List.not_mem_nil, or_false] at hm
    omega⟩)
  refine ⟨KeepsFrom.of_but hb hL, ⟨hk, hb.size⟩, ⟨?_, ?_, ?_, h.text.keeps hk, ?_, Nat.le_trans h.size_ hb.size⟩⟩
  · rw [List.length_append]
    exact hbox
  · rw [List.length_append, List.flatMap_append, List.flatMap_singleton]
    exact hrow
  · intro y hy
    rw [List.mem_append, List.mem_singleton] at hy
    rcases hy with hy | rfl
    · exact (h.el y hy).but hb hL
    · exact hx.but hb hL
  · have hK : K < W.heap.size := own_lt h.row rfl
    exact h.below.trans ((hb.less (by omega)).below (by intro k hk; simp only [List.mem_cons, List.not_mem_nil, or_false] at hk; omega))
theorem But.grownIn {L : List Nat} {B g : Nat} {a w w' : World} (h : But L B a w) (hB : B ≤ w.heap.size) (hg : w.grownBy w' (some g)) (hL : g ∈ L) : But L B a w' :=
  ⟨hg.os.trans h.os, hg.tape.trans h.tape, hg.output.trans h.output, Nat.le_trans h.size hg.size, fun k hk hn => (hg.block k (by omega) (fun e => by injection e with e; subst e; exact hn hL)).trans (h.block k hk hn)⟩
/-- A round whose calls make memory, append in the row and store into the box. -/
theorem LoopK.store {x : KEl} {w1 w6 : World} {m : Nat} (h : LoopK K N a A c b M T E size f w pre W) (hx : x.at_ M b W) (hm : countK b.length = m) (hN : K < N) (hM : N < M) (hw : K ≤ w.heap.size) (ht : ∀ k ∈ tblk a A, N < k)
    (hb1 : Below W.heap.size W w1) (hg6 : w1.grownBy w6 (some K)) (hown6 : w6.ownsRow K E size (.slice (some ⟨K, 0, none⟩) (pre.length + 1) m) (pre.length + 1) (pre.flatMap f ++ f x)) :
    One w6 N (.slice (some ⟨K, 0, none⟩) pre.length m) T ∧ KeepsFrom M W (w6.setCell ⟨N, 0, none⟩ (.slice (some ⟨K, 0, none⟩) (pre.length + 1) m)) ∧ KeepsS (tblk a A) W (w6.setCell ⟨N, 0, none⟩ (.slice (some ⟨K, 0, none⟩) (pre.length + 1) m)) ∧
      LoopK K N a A c b M T E size f w (pre ++ [x]) (w6.setCell ⟨N, 0, none⟩ (.slice (some ⟨K, 0, none⟩) (pre.length + 1) m)) := by
  subst hm
  have hNlt := h.box.lt
  have o6 : One w6 N (.slice (some ⟨K, 0, none⟩) pre.length (countK b.length)) T := by
    have o1 := h.box.below hb1 hNlt
    exact (hg6.block N o1.lt (fun e => by injection e with e; omega)).trans o1
  have hgN := grown_cellB w6 N 0 (.slice (some ⟨K, 0, none⟩) (pre.length + 1) (countK b.length))
  have hb : But [K, N] W.heap.size W (w6.setCell ⟨N, 0, none⟩ (.slice (some ⟨K, 0, none⟩) (pre.length + 1) (countK b.length))) :=
    (((But.of [K, N] hb1).grownIn hb1.size hg6 (by simp)).grownIn (Nat.le_trans hb1.size hg6.size) hgN (by simp))
  refine ⟨o6, h.round hx (by omega) hM hw ht hb (o6.set _) (hown6.kept hgN (.inr (fun e => ?_)))⟩
  simp [Value.ownBlock] at e
  omega
end
theorem flatMap_one {α β : Type} (g : α → β) (l : List α) : l.flatMap (fun x => [g x]) = l.map g := by
  induction l with
  | nil => rfl
  | cons a l ih => rw [List.flatMap_cons, ih]; rfl
/-- The slices that have come. -/
def KEl.slc (n : Nat) (x : KEl) : Value := .slice x.A (partK n x.i) x.c
end Go.Proofs.YtmcbpifkclhfiaaDoor
