/-
  Layer 5: works and its closures.
-/
import Derived.Test.YtkogolgaggdacaaTrapF
namespace Go.Proofs.Ytkogolgaggdacaa
open Go.RowKit
set_option linter.unusedVariables false

theorem w1_any (w : World) : Does Try.prog FF 29 #[] [] w 6 false fun _ => True := by
  unfold Does
  go_enter Try.func29, Try.ntmps29
  go_wp2_with fail
  refine (throw_any 6 w).mono ?_
  rintro e w1 ⟨rfl, rfl⟩
  exact ⟨rfl, .fault 6, .refl _ _ _, trivial⟩
theorem w7_any (w : World) : Does Try.prog FF 36 #[] [] w 10 false fun _ => True := by
  unfold Does
  go_enter Try.func36, Try.ntmps36
  go_wp2_with fail
  refine (throw_any 10 w).mono ?_
  rintro e w1 ⟨rfl, rfl⟩
  exact ⟨rfl, .fault 10, .refl _ _ _, trivial⟩
theorem w81_any (L : List Nat) (w : World) (Post : World → Prop) (hp : Post w) : Does Try.prog FF 38 #[] L w 11 false Post := by
  have HP := Lib.hid hp
  clear hp
  unfold Does
  go_enter Try.func38, Try.ntmps38
  go_wp2_with fail
  refine (throw_any 11 w).mono ?_
  rintro e w1 ⟨rfl, rfl⟩
  exact ⟨rfl, .fault 11, .refl _ _ _, HP.out⟩
/-- What a function does that hands over to another one as its last act. -/
theorem w2_any (w : World) : Does Try.prog FF 31 #[] [] w 17 false fun _ => True := by
  unfold Does
  go_enter Try.func31, Try.ntmps31
  go_wp2_with fail
  refine Calls.mono (step_any (-1) w) ?_
  rintro e w1 ⟨ht, hb, -⟩
  rcases ht.shape with ⟨rfl, h, -⟩ | ⟨p, rfl, -⟩
  · exact absurd h (by decide)
  · exact ⟨rfl, ht, hb, trivial⟩
theorem w3_any (w : World) : DoesI Try.prog FF 32 #[] w 7 0 true := by
  unfold DoesI
  go_enter Try.func32, Try.ntmps32
  go_wp2
  go_ret
  exact ⟨.inl (by simp), .refl _ _⟩
theorem w4_any (x : Int) (w : World) : DoesI Try.prog FF 33 #[] w x 12 false := by
  unfold DoesI
  go_enter Try.func33, Try.ntmps33
  go_wp2_with fail
  refine Calls.mono (must_any 12 w) ?_
  rintro e w1 ⟨ht, rfl⟩
  rcases ht.shape with ⟨rfl, h, -⟩ | ⟨p, rfl, -⟩
  · exact absurd h (by decide)
  · exact ⟨rfl, .inr ⟨ht, by simp⟩, .refl _ _⟩
theorem w5_any (i : Nat) (hi : i < 3) (w : World) : Does Try.prog FF 34 #[.int .i64 (i : Int)] [] w (codeN ((i : Int) / 2 * 5)) (okN ((i : Int) / 2 * 5)) fun _ => True := by
  unfold Does
  have HS := Lib.hid (step_any ((i : Int) / 2 * 5) w)
  go_enter Try.func34, Try.ntmps34
  go_wp2_with fail
  refine Calls.mono HS.out ?_
  rintro e w1 ⟨ht, hb, -⟩
  have ht' := ht
  rcases ht.shape with ⟨rfl, -, -⟩ | ⟨p, rfl, -⟩
  · have HT := Lib.hid ht'
    have HB := Lib.hid hb
    clear ht ht' hb
    go_wp2
    go_end0
    exact ⟨HT.out, HB.out, trivial⟩
  · exact ⟨rfl, ht', hb, trivial⟩
theorem w6_any (w : World) : Does Try.prog FF 35 #[] [] w 0 true fun _ => True := by
  unfold Does
  go_enter Try.func35, Try.ntmps35
  go_wp2
  go_end0
  exact ⟨.ret, .refl _ _ _, trivial⟩
theorem w82_any (B : Nat) (v : Value) (w : World) (h : One w B v 4) : Calls Try.prog 39 #[.pointer (some ⟨B, 0, none⟩)] w fun e w' => e = .returned (.tuple #[]) ∧ w' = w.setCell ⟨B, 0, none⟩ (.bool true) := by
  have c1 := h.cell
  have c2 := h.free
  go_enter Try.func39, Try.ntmps39
  go_wp2
  go_end0
  exact ⟨rfl, rfl⟩
theorem w8_any (B : Nat) (v : Value) (w : World) (h : One w B v 4) : Does Try.prog FF 37 #[.pointer (some ⟨B, 0, none⟩)] [B] w 11 false fun w' => One w' B (.bool true) 4 := by
  have hmf : ∀ (fn : Fn) (first cap : Array Value) (w : World), (Instr.makeFunc fn first cap).run Try.prog w = .ok (.func fn first cap) w := fun _ _ _ _ => rfl
  have H := Lib.hid h
  clear h
  unfold Does
  go_enter Try.func37, Try.ntmps37
  go_wp2_with fail
  refine Calls.mono (always_any 38 39 #[] #[.pointer (some ⟨B, 0, none⟩)] [B] w 11 false (fun w' => One w' B v 4) (fun w' => One w' B (.bool true) 4)
    (by simpa using H.out.lt) (ent Try.func38 (by kernel_rfl) rfl) (ent Try.func39 (by kernel_rfl) rfl)
    (w81_any _ _ _ (H.out.alloc _)) (fun w' hw => (w82_any B v w' hw).mono fun e w'' hh => ⟨hh.1, by rw [hh.2]; exact (But.refl _ _ _).setCell (.inl (by simp)) _, by rw [hh.2]; exact hw.set _⟩)) ?_
  rintro e w1 ⟨ht, hb, hp⟩
  rcases ht.shape with ⟨rfl, h, -⟩ | ⟨p, rfl, -⟩
  · exact absurd h (by decide)
  · exact ⟨rfl, ht, hb, hp⟩

theorem catch_still (g : FuncId) (cap : Array Value) (w : World) (c : Int) (ok : Bool)
    (he : ∀ (w : World) (d : Array Value), (callFunc g d).run Try.prog w = .ok (.enter g d) w)
    (hf : Does Try.prog FF g cap [] ((w.alloc (.cells #[.int .i64 0] 22)).alloc (.cells #[.bool false] 4)) c ok fun _ => True) :
    Calls Try.prog 6 #[.func (.func g) #[] cap] w fun e w' => e = .returned (.int .i64 c) ∧ Below w.heap.size w w' :=
  (catch_any g cap [] w c ok _ (by simp) he hf).mono fun e w' h => ⟨h.1, h.2.1.below'⟩
def pick3 {α : Type} (a b c : α) : Nat → α
  | 0 => a
  | 1 => b
  | _ => c
/-- The cells of a new block of three. -/
theorem three_cells (w : World) (a b c : Value) (t : TypeId) (i : Nat) (hi : i < 3) : (w.alloc (.cells #[a, b, c] t)).cell? ⟨w.heap.size, i, none⟩ = some (pick3 a b c i) := by
  have hh : (w.alloc (.cells #[a, b, c] t)).heap[w.heap.size]? = some (.cells #[a, b, c] t (0, 0)) := heap_alloc_new _ _
  have h : i = 0 ∨ i = 1 ∨ i = 2 := by omega
  rcases h with rfl | rfl | rfl <;> exact (cell_of_row _ _ _ _ _ _ hh)
/-- The codes of three steps: the first that is not 0. -/
theorem first_three (e : Ending) (a b d : Int) (h : ∃ k, k ≤ 3 ∧ (∀ i, i < k → pick3 a b d i = 0) ∧
      ((k = 3 ∧ e = .returned (.int .i64 0)) ∨ (k < 3 ∧ (pick3 a b d k) ≠ 0 ∧ e = .returned (.int .i64 (pick3 a b d k))))) :
    e = .returned (.int .i64 (if a ≠ 0 then a else if b ≠ 0 then b else d)) := by
  obtain ⟨k, hk, hz, h⟩ := h
  rcases h with ⟨rfl, rfl⟩ | ⟨h3, hne, rfl⟩
  · have h0 := hz 0 (by omega)
    have h1 := hz 1 (by omega)
    have h2 := hz 2 (by omega)
    simp [pick3] at h0 h1 h2
    simp [h0, h1, h2]
  · have h : k = 0 ∨ k = 1 ∨ k = 2 := by omega
    rcases h with rfl | rfl | rfl
    · simp [pick3] at hne; simp [pick3, hne]
    · have h0 := hz 0 (by omega)
      simp [pick3] at hne h0; simp [pick3, hne, h0]
    · have h0 := hz 0 (by omega)
      have h1 := hz 1 (by omega)
      simp [pick3] at hne h0 h1; simp [pick3, h0, h1]

theorem works_any (w : World) : Calls Try.prog 13 #[] w fun e w' => e = .returned (.bool true) ∧ Below w.heap.size w w' := by
  have hmf : ∀ (fn : Fn) (first cap : Array Value) (w : World), (Instr.makeFunc fn first cap).run Try.prog w = .ok (.func fn first cap) w := fun _ _ _ _ => rfl
  go_enter Try.func13, Try.ntmps13
  go_wp2_with fail
  refine Calls.mono (catch_any 29 #[] [] w 6 false _ (by simp) (ent Try.func29 (by kernel_rfl) rfl) (w1_any _)) ?_
  rintro e w1 ⟨rfl, hb1, -⟩
  go_wp2_with fail
  refine Calls.mono (catch_any 31 #[] [] w1 17 false _ (by simp) (ent Try.func31 (by kernel_rfl) rfl) (w2_any _)) ?_
  rintro e w2 ⟨rfl, hb2, -⟩
  have B2 : Hid (Below w.heap.size w w2) := hb1.below'.trans (hb2.below'.mono hb1.size)
  clear hb1 hb2
  go_wp2_with fail
  refine Calls.mono (catch_nil w2) ?_
  rintro e w3 ⟨rfl, rfl⟩
  go_wp2_with fail
  refine Calls.mono (try_any 32 #[] w2 7 0 true (ent Try.func32 (by kernel_rfl) rfl) (fun _ _ => w3_any _)) ?_
  rintro e w4 ⟨rfl, hb4⟩
  have B4 : Hid (Below w.heap.size w w4) := B2.out.trans (hb4.mono B2.out.size)
  clear hb4 B2
  go_wp2_with fail
  refine Calls.mono (try_any 33 #[] w4 0 12 false (ent Try.func33 (by kernel_rfl) rfl) (fun _ _ => w4_any 0 _)) ?_
  rintro e w5 ⟨rfl, hb5⟩
  have B5 : Hid (Below w.heap.size w w5) := B4.out.trans (hb5.mono B4.out.size)
  clear hb5 B4
  go_wp2_with fail
  refine Calls.mono (each_any 3 (by decide) 34 #[] [] w5 (fun i => codeN ((i : Int) / 2 * 5)) (fun i => okN ((i : Int) / 2 * 5)) (fun _ _ => True) (by simp) (ent Try.func34 (by kernel_rfl) rfl) (fun _ _ _ _ _ => trivial) trivial
    (fun i w' hi _ _ => w5_any i hi w')) ?_
  rintro e w6 ⟨k, hk, hoks, he, hb6, -⟩
  obtain ⟨rfl, rfl⟩ : k = 2 ∧ e = .returned (.tuple #[.int .i64 2, .int .i64 5]) := by
    have hk2 : ¬ 2 < k := fun h => absurd (hoks 2 h) (by decide)
    rcases he with ⟨rfl, -⟩ | ⟨h3, h4, rfl⟩
    · exact absurd hk2 (by decide)
    · have h5 : k = 0 ∨ k = 1 ∨ k = 2 := by omega
      rcases h5 with rfl | rfl | rfl
      · exact absurd h4 (by decide)
      · exact absurd h4 (by decide)
      · exact ⟨rfl, rfl⟩
  have B6 : Hid (Below w.heap.size w w6) := B5.out.trans (hb6.below'.mono B5.out.size)
  clear hb6 B5 he hk hoks
  go_wp2_with fail
  refine Calls.mono (first_any 3 (by decide) w6.heap.size (pick3 (.func (.func 35) #[] #[]) (.func (.func 36) #[] #[]) .nilFunc)
    _ (pick3 0 10 1) (by simp) (fun i hi => three_cells _ _ _ _ _ i hi) ?_) ?_
  · intro i w' hi _
    have h : i = 0 ∨ i = 1 ∨ i = 2 := by omega
    rcases h with rfl | rfl | rfl
    · exact catch_still _ _ _ _ _ (ent Try.func35 (by kernel_rfl) rfl) (w6_any _)
    · exact catch_still _ _ _ _ _ (ent Try.func36 (by kernel_rfl) rfl) (w7_any _)
    · exact (catch_nil w').mono fun e w'' h => ⟨h.1, by rw [← h.2]; exact .refl _ _⟩
  rintro e w7 ⟨k, hk, hoks, he, hb7⟩
  obtain rfl := first_three e 0 10 1 ⟨k, hk, hoks, he⟩
  have B7 : Hid (Below w.heap.size w w7) := (B6.out.alloc B6.out.size _).trans (hb7.mono (by have := B6.out.size; simp; omega))
  clear hb7 B6 he hk hoks
  go_wp2_with fail
  have o1 := One.new w7 (.bool false) 4
  refine Calls.mono (catch_any 37 #[.pointer (some ⟨w7.heap.size, 0, none⟩)] [w7.heap.size] _ 11 false _ (by simp) (ent Try.func37 (by kernel_rfl) rfl) (w8_any w7.heap.size (.bool false) _ ((o1.alloc _).alloc _))) ?_
  rintro e w8 ⟨rfl, hb8, w9, hone, hb9⟩
  have q1 := (hone.below hb9 (by simp)).cell
  have B8 : Hid (Below w.heap.size w w8) := (B7.out.alloc B7.out.size _).trans ((hb8.less (by have := B7.out.size; simp; omega)).below (by have := B7.out.size; simpa using this))
  clear o1 hone hb8 hb9 B7
  go_wp2
  go_ret
  exact ⟨rfl, B8.out⟩
end Go.Proofs.Ytkogolgaggdacaa
