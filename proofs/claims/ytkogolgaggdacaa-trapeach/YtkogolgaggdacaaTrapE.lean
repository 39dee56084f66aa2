/-
  Layer 5: contracts of Try[int] and its closure; of Always and its deferred closure.
-/
import Derived.Test.YtkogolgaggdacaaTrapD
namespace Go.Proofs.Ytkogolgaggdacaa
open Go.RowKit
set_option linter.unusedVariables false

/-- A function that hands an int back. -/
def DoesI (P : Program) (F : TypeId) (g : FuncId) (args : Array Value) (w : World) (x c : Int) (ok : Bool) : Prop :=
  Calls P g args w fun e w' => ((e = .returned (.int .i64 x) ∧ c = 0 ∧ ok = true) ∨ (Tells F e c ok ∧ ok = false)) ∧ Below w.heap.size w w'

theorem tryclo_any (g : FuncId) (cap : Array Value) (B : Nat) (w : World) (x c : Int) (ok : Bool)
    (he : ∀ (w : World) (d : Array Value), (callFunc g d).run Try.prog w = .ok (.enter g d) w)
    (h1 : One w B (.func (.func g) #[] cap) 28) (h2 : One w (B + 1) (.int .i64 0) 3) (hf : DoesI Try.prog FF g cap w x c ok) :
    Does Try.prog FF 27 #[.pointer (some ⟨B, 0, none⟩), .pointer (some ⟨B + 1, 0, none⟩)] [B + 1] w c ok fun w' => One w' (B + 1) (.int .i64 (if ok then x else 0)) 3 := by
  have c1 := h1.cell
  have H2 := Lib.hid h2
  have hl2 := h2.lt
  have HF := Lib.hid hf
  clear h2 hf
  unfold Does
  go_enter Try.func27, Try.ntmps27
  go_wp2_with fail
  refine Calls.mono HF.out ?_
  rintro e w1 ⟨ht, hb⟩
  have k2 := H2.out.below hb hl2
  rcases ht with ⟨rfl, hc, hok⟩ | ⟨ht, hok⟩
  · have HC := Lib.hid hc
    have HO := Lib.hid hok
    have HB := Lib.hid hb
    have K2 := Lib.hid k2
    have d1 := k2.cell
    have d2 := k2.free
    clear hc hok hb k2
    go_wp2
    go_end0
    rw [HC.out]
    exact ⟨.ret, (But.of _ HB.out).setCell (.inl (by simp)) _, K2.out.set _⟩
  · have ht' := ht
    rcases ht.shape with ⟨rfl, -, h⟩ | ⟨p, rfl, -⟩
    · rw [h] at hok; cases hok
    · exact ⟨rfl, ht', But.of _ hb, by rw [hok]; exact k2⟩

theorem try_any (g : FuncId) (cap : Array Value) (w : World) (x c : Int) (ok : Bool)
    (he : ∀ (w : World) (d : Array Value), (callFunc g d).run Try.prog w = .ok (.enter g d) w)
    (hf : ∀ w', Below w.heap.size w w' → DoesI Try.prog FF g cap w' x c ok) :
    Calls Try.prog 9 #[.func (.func g) #[] cap] w fun e w' => e = .returned (.tuple #[.int .i64 (if ok then x else 0), .int .i64 c]) ∧ Below w.heap.size w w' := by
  obtain ⟨xx, hxx⟩ : ∃ xx, xx = if ok then x else 0 := ⟨_, rfl⟩
  rw [← hxx]
  have HX := Lib.hid hxx
  have HF := Lib.hid hf
  have HE := Lib.hid he
  clear hxx hf he
  have hmf : ∀ (fn : Fn) (first cap : Array Value) (w : World), (Instr.makeFunc fn first cap).run Try.prog w = .ok (.func fn first cap) w := fun _ _ _ _ => rfl
  have hnf : ∀ w : World, (binOp .eql 28 (.func (.func g) #[] cap) .nilFunc).run Try.prog w = .ok (.bool false) w := fun _ => rfl
  go_enter Try.func9, Try.ntmps9
  go_wp2_with fail
  have g1 : One ((w.alloc (.cells #[.func (.func g) #[] cap] 28)).alloc (.cells #[.int .i64 0] 3)) w.heap.size (.func (.func g) #[] cap) 28 := (One.new w _ _).alloc _
  have g2 : One ((w.alloc (.cells #[.func (.func g) #[] cap] 28)).alloc (.cells #[.int .i64 0] 3)) (w.heap.size + 1) (.int .i64 0) 3 := by
    have := One.new (w.alloc (.cells #[.func (.func g) #[] cap] 28)) (.int .i64 0) 3
    simpa using this
  have hb0 : Below w.heap.size w ((w.alloc (.cells #[.func (.func g) #[] cap] 28)).alloc (.cells #[.int .i64 0] 3)) := ((Below.refl _ _).alloc (Nat.le_refl _) _).alloc (by simp) _
  have hs0 : ((w.alloc (.cells #[.func (.func g) #[] cap] 28)).alloc (.cells #[.int .i64 0] 3)).heap.size = w.heap.size + 2 := by simp
  have hcl := fun h => tryclo_any g cap w.heap.size ((((w.alloc (.cells #[.func (.func g) #[] cap] 28)).alloc (.cells #[.int .i64 0] 3)).alloc (.cells #[.int .i64 0] 22)).alloc (.cells #[.bool false] 4)) x c ok HE.out ((g1.alloc _).alloc _) ((g2.alloc _).alloc _) h
  refine Calls.mono (catch_any 27 _ [w.heap.size + 1] _ c ok _ (by simp) (ent Try.func27 (by kernel_rfl) rfl) (hcl (HF.out _ ((hb0.alloc (by omega) _).alloc (by simp; omega) _)))) ?_
  rintro e w1 ⟨rfl, hb, w2, hp, hb2⟩
  rw [← HX.out] at hp
  have k2 := hp.below hb2 (by omega)
  have HB := Lib.hid (hb0.trans ((hb.less (by omega)).below (by simp)))
  have q1 := k2.cell
  have q2 := k2.free
  have q3 := (k2.set (.int .i64 xx)).cell
  clear g1 g2 hb0 hs0 hcl hb hp hb2 k2
  go_wp2
  exact bodyPost_ret (v := .tuple #[.int .i64 xx, .int .i64 c]) (by simp [results, Try.results9, go_sem, q3]) rfl ⟨rfl, HB.out.setCell (Nat.le_succ _) _⟩

/-- The deferred closure of Always: it calls last. -/
theorem lastclo_any (g : FuncId) (cap : Array Value) (B : Nat) (u : FrameMode) (w : World) (R : World → Prop)
    (he : ∀ (w : World) (d : Array Value), (callFunc g d).run Try.prog w = .ok (.enter g d) w)
    (h1 : One w B (.func (.func g) #[] cap) 1) (hf : Calls Try.prog g cap w fun e w' => e = .returned (.tuple #[]) ∧ R w') :
    CallsD Try.prog 41 #[.pointer (some ⟨B, 0, none⟩)] u w fun e u' w' => u' = u ∧ e = .returned (.tuple #[]) ∧ R w' := by
  have c1 := h1.cell
  have HF := Lib.hid hf
  clear hf
  go_enter_d Try.func41, Try.ntmps41
  go_wp2_with fail
  refine Calls.mono HF.out ?_
  rintro e w1 ⟨rfl, hr⟩
  have HR := Lib.hid hr
  clear hr
  go_wp2
  go_end0
  exact ⟨rfl, HR.out⟩

theorem always_any (g h : FuncId) (cap cap2 : Array Value) (L : List Nat) (w : World) (c : Int) (ok : Bool) (Post Post2 : World → Prop) (hL : ∀ k ∈ L, k < w.heap.size)
    (he : ∀ (w : World) (d : Array Value), (callFunc g d).run Try.prog w = .ok (.enter g d) w)
    (he2 : ∀ (w : World) (d : Array Value), (callFunc h d).run Try.prog w = .ok (.enter h d) w)
    (hf : Does Try.prog FF g cap L (w.alloc (.cells #[.func (.func h) #[] cap2] 1)) c ok Post)
    (hl : ∀ w', Post w' → Calls Try.prog h cap2 w' fun e w'' => e = .returned (.tuple #[]) ∧ But L w.heap.size w' w'' ∧ Post2 w'') :
    Does Try.prog FF 22 #[.func (.func g) #[] cap, .func (.func h) #[] cap2] L w c ok Post2 := by
  have hmf : ∀ (fn : Fn) (first cap : Array Value) (w : World), (Instr.makeFunc fn first cap).run Try.prog w = .ok (.func fn first cap) w := fun _ _ _ _ => rfl
  have HF := Lib.hid hf
  have HL := Lib.hid hl
  have HE2 := Lib.hid he2
  clear hf hl he2
  unfold Does
  go_enter_defers Try.func22, Try.ntmps22
  go_wp2_with fail
  refine Calls.mono HF.out ?_
  rintro e w1 ⟨ht, hb, hP⟩
  have k1 := (One.new w (.func (.func h) #[] cap2) 1).but hb (by simp) (fun hm => absurd (hL _ hm) (by omega))
  have hbw : But L w.heap.size w w1 := ((But.refl L w.heap.size w).alloc (Nat.le_refl _) _).trans (hb.less (by simp))
  have HT := Lib.hid ht
  have HP := Lib.hid hP
  have HB := Lib.hid hbw
  have K1 := Lib.hid k1
  clear ht hP hb hbw k1
  have hdoor : ∀ u : FrameMode, u ≠ .run → CallsD Try.prog 41 #[.pointer (some ⟨w.heap.size, 0, none⟩)] u w1 fun e u' w' => u' = u ∧ e = .returned (.tuple #[]) ∧ But L w.heap.size w1 w' ∧ Post2 w' :=
    fun u _ => lastclo_any h cap2 w.heap.size u w1 _ HE2.out K1.out (HL.out _ HP.out)
  cases HT.out with
  | ret =>
    go_wp2
    refine leaves_cons (f := 41) (args := #[.pointer (some ⟨w.heap.size, 0, none⟩)]) (by simp) (by simp [go_sem]) ?_
    refine (hdoor _ (by simp)).mono ?_
    rintro e u' w'' ⟨rfl, rfl, hb2, hp2⟩
    simp [Leaves, settle, results, Try.results22, go_sem]
    exact ⟨HT.out, HB.out.trans hb2, hp2⟩
  | fault =>
    refine leaves_cons (f := 41) (args := #[.pointer (some ⟨w.heap.size, 0, none⟩)]) (by simp) (by simp [go_sem]) ?_
    refine (hdoor _ (by simp)).mono ?_
    rintro e u' w'' ⟨rfl, rfl, hb2, hp2⟩
    simp [Leaves, settle]
    exact ⟨HT.out, HB.out.trans hb2, hp2⟩
  | other t x ht =>
    refine leaves_cons (f := 41) (args := #[.pointer (some ⟨w.heap.size, 0, none⟩)]) (by simp) (by simp [go_sem]) ?_
    refine (hdoor _ (by simp)).mono ?_
    rintro e u' w'' ⟨rfl, rfl, hb2, hp2⟩
    simp [Leaves, settle]
    exact ⟨HT.out, HB.out.trans hb2, hp2⟩
end Go.Proofs.Ytkogolgaggdacaa
