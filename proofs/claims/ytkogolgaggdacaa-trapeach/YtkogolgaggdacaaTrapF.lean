/-
  Layer 5: contracts of Each and its closure; of First.
-/
import Derived.Test.YtkogolgaggdacaaTrapE
namespace Go.Proofs.Ytkogolgaggdacaa
open Go.RowKit
set_option linter.unusedVariables false

theorem eachclo_any (g : FuncId) (cap : Array Value) (B b : Nat) (i : Int) (L : List Nat) (w : World) (c : Int) (ok : Bool) (Post : World → Prop)
    (he : ∀ (w : World) (d : Array Value), (callFunc g d).run Try.prog w = .ok (.enter g d) w)
    (h1 : One w B (.func (.func g) #[] cap) 27) (h2 : One w b (.int .i64 i) 3) (hf : Does Try.prog FF g (#[.int .i64 i] ++ cap) L w c ok Post) :
    Does Try.prog FF 40 #[.pointer (some ⟨B, 0, none⟩), .pointer (some ⟨b, 0, none⟩)] L w c ok Post := by
  have c1 := h1.cell
  have c2 := h2.cell
  have HF := Lib.hid hf
  clear hf
  unfold Does
  go_enter Try.func40, Try.ntmps40
  go_wp2_with fail
  refine Calls.mono HF.out ?_
  rintro e w1 ⟨ht, hb, hp⟩
  have ht' := ht
  rcases ht.shape with ⟨rfl, -, -⟩ | ⟨p, rfl, -⟩
  · have HT := Lib.hid ht'
    have HB := Lib.hid hb
    have HP := Lib.hid hp
    clear ht ht' hb hp
    go_wp2
    go_end0
    exact ⟨HT.out, HB.out, HP.out⟩
  · exact ⟨rfl, ht', hb, hp⟩

/-- Each: the calls go on up to the first that panics. -/
theorem each_any (n : Nat) (hn : n < 4611686018427387904) (g : FuncId) (cap : Array Value) (L : List Nat) (w : World) (c : Nat → Int) (ok : Nat → Bool) (I : Nat → World → Prop) (hL : ∀ k ∈ L, k < w.heap.size)
    (he : ∀ (w : World) (d : Array Value), (callFunc g d).run Try.prog w = .ok (.enter g d) w)
    (hI : ∀ i w1 w2, I i w1 → Below w.heap.size w1 w2 → I i w2) (h0 : I 0 w)
    (hf : ∀ i w', i < n → But L w.heap.size w w' → I i w' → Does Try.prog FF g (#[.int .i64 (i : Int)] ++ cap) L w' (c i) (ok i) (I (if ok i then i + 1 else i))) :
    Calls Try.prog 14 #[.int .i64 (n : Int), .func (.func g) #[] cap] w fun e w' => ∃ k, k ≤ n ∧ (∀ i, i < k → ok i = true) ∧
      ((k = n ∧ e = .returned (.tuple #[.int .i64 (n : Int), .int .i64 0])) ∨ (k < n ∧ ok k = false ∧ e = .returned (.tuple #[.int .i64 (k : Int), .int .i64 (c k)]))) ∧ But L w.heap.size w w' ∧ I k w' := by
  have hmf : ∀ (fn : Fn) (first cap : Array Value) (w : World), (Instr.makeFunc fn first cap).run Try.prog w = .ok (.func fn first cap) w := fun _ _ _ _ => rfl
  have hnot : ∀ (x : Bool) (w : World), (Op.unary .not (.bool x)).run Try.prog w = .ok (.bool (!x)) w := fun _ _ => rfl
  have HE := Lib.hid he
  have HI := Lib.hid hI
  have H0 := Lib.hid h0
  have HF := Lib.hid hf
  clear he hI h0 hf
  go_enter Try.func14, Try.ntmps14
  go_wp2_with fail
  go_loopw [10] (fun i W => ∃ k : Nat, k ≤ n ∧ i = .int .i64 k ∧ Hid (∀ j, j < k → ok j = true) ∧ Hid (One W w.heap.size (.func (.func g) #[] cap) 27) ∧ Hid (But L w.heap.size w W) ∧ Hid (I k W)) (fun i _ => n - (intOf i).toNat)
  case atStart => exact ⟨0, Nat.zero_le _, rfl, fun j hj => absurd hj (Nat.not_lt_zero j), One.new _ _ _, (But.refl _ _ _).alloc (Nat.le_refl _) _, HI.out _ _ _ H0.out ((Below.refl _ _).alloc (Nat.le_refl _) _)⟩
  case round =>
    obtain ⟨k, hk, hi', hoks, hone, hb, hik⟩ := hrel
    subst hi'
    by_cases hlt : k < n
    · go_wp2_with fail
      have hsz : w.heap.size < wr.heap.size := hone.out.lt
      have g1 : One (wr.alloc (.cells #[.int .i64 (k : Int)] 3)) w.heap.size (.func (.func g) #[] cap) 27 := hone.out.alloc _
      have g2 : One (wr.alloc (.cells #[.int .i64 (k : Int)] 3)) wr.heap.size (.int .i64 (k : Int)) 3 := One.new _ _ _
      have hbl : Below w.heap.size wr (((wr.alloc (.cells #[.int .i64 (k : Int)] 3)).alloc (.cells #[.int .i64 0] 22)).alloc (.cells #[.bool false] 4)) := (((Below.refl _ _).alloc (by omega) _).alloc (by simp; omega) _).alloc (by simp; omega) _
      have hd := HF.out k (((wr.alloc (.cells #[.int .i64 (k : Int)] 3)).alloc (.cells #[.int .i64 0] 22)).alloc (.cells #[.bool false] 4)) hlt (hb.out.trans (But.of _ hbl)) (HI.out _ _ _ hik.out hbl)
      have hcl := eachclo_any g cap w.heap.size wr.heap.size (k : Int) L _ (c k) (ok k) _ HE.out ((g1.alloc _).alloc _) ((g2.alloc _).alloc _) hd
      refine Calls.mono (call_any 40 _ L _ (c k) (ok k) _ (fun j hj => by have := hL j hj; simp; omega) (ent Try.func40 (by kernel_rfl) rfl) hcl) ?_
      rintro e w1 ⟨rfl, hb1, w2, hp, hb2⟩
      have hb1' : But L w.heap.size w w1 := hb.out.trans ((But.of _ ((Below.refl _ _).alloc (by omega) _)).trans (hb1.less (by simp; omega)))
      have k1 := g1.but hb1 (by simp; omega) (fun hm => absurd (hL _ hm) (by omega))
      have k2 := g2.but hb1 (by simp) (fun hm => absurd (hL _ hm) (by omega))
      have ki := HI.out _ _ _ hp (hb2.mono (by simp; omega))
      have HB1 := Lib.hid hb1'
      have K1 := Lib.hid k1
      have KI := Lib.hid ki
      have q2 := k2.cell
      clear hp hb2 hb1 hb1' hcl hd hbl g1 g2 k1 k2 ki
      by_cases hok : ok k = true
      · have KI2 : Hid (I (k + 1) w1) := by have h := KI.out; rw [if_pos hok] at h; exact h
        clear KI
        go_wp2_with fail
        go_roundw
        case rel => exact ⟨k + 1, by omega, by go_num, fun j hj => by rcases Nat.lt_or_ge j k with h | h; exact hoks.out j h; rw [show j = k from by omega]; exact hok, K1, HB1, KI2⟩
        case measure => simp [intOf]; omega
      · have hok' : ok k = false := by simpa using hok
        have KI2 : Hid (I k w1) := by have h := KI.out; rw [if_neg hok] at h; exact h
        clear KI hok
        go_wp2_with fail
        go_ret2
        exact ⟨k, hk, hoks.out, .inr ⟨hlt, hok', rfl⟩, HB1.out, KI2.out⟩
    · obtain rfl : n = k := by omega
      go_wp2_with fail
      go_ret2
      exact ⟨n, hk, hoks.out, .inl ⟨rfl, rfl⟩, hb.out, hik.out⟩

/-- First: the code of the first function that has one. -/
theorem first_any (n : Nat) (hn : n < 4611686018427387904) (b : Nat) (vs : Nat → Value) (w : World) (c : Nat → Int) (hbl : b < w.heap.size)
    (hv : ∀ i, i < n → w.cell? ⟨b, i, none⟩ = some (vs i))
    (hf : ∀ i w', i < n → Below w.heap.size w w' → Calls Try.prog 6 #[vs i] w' fun e w'' => e = .returned (.int .i64 (c i)) ∧ Below w'.heap.size w' w'') :
    Calls Try.prog 17 #[.slice (some ⟨b, 0, none⟩) n n] w fun e w' => ∃ k, k ≤ n ∧ (∀ i, i < k → c i = 0) ∧
      ((k = n ∧ e = .returned (.int .i64 0)) ∨ (k < n ∧ c k ≠ 0 ∧ e = .returned (.int .i64 (c k)))) ∧ Below w.heap.size w w' := by
  have HV := Lib.hid hv
  have HF := Lib.hid hf
  clear hv hf
  go_enter Try.func17, Try.ntmps17
  go_wp2_with fail
  go_loopw [8] (fun i W => ∃ k : Nat, k ≤ n ∧ i = .int .i64 k ∧ Hid (∀ j, j < k → c j = 0) ∧ Hid (Below w.heap.size w W)) (fun i _ => n - (intOf i).toNat)
  case atStart => exact ⟨0, Nat.zero_le _, rfl, fun j hj => absurd hj (Nat.not_lt_zero j), Below.refl _ _⟩
  case round =>
    obtain ⟨k, hk, hi', hoks, hb⟩ := hrel
    subst hi'
    by_cases hlt : k < n
    · have hcell := (hb.out.cell (p := ⟨b, k, none⟩) hbl).trans (HV.out k hlt)
      go_wp2_with fail
      refine Calls.mono (HF.out k wr hlt hb.out) ?_
      rintro e w1 ⟨rfl, hb1⟩
      have HB1 := Lib.hid (hb.out.trans (hb1.mono hb.out.size))
      clear hb1 hcell
      by_cases hz : c k = 0
      · have hz1 : (c k != 0) = false := by simp [hz]
        have HZ := Lib.hid hz
        clear hz
        go_wp2_with fail
        go_roundw
        case rel => exact ⟨k + 1, by omega, by go_num, fun j hj => by rcases Nat.lt_or_ge j k with h | h; exact hoks.out j h; rw [show j = k from by omega]; exact HZ.out, HB1⟩
        case measure => simp [intOf]; omega
      · have hz1 : (c k != 0) = true := by simp [hz]
        have HZ := Lib.hid hz
        clear hz
        go_wp2_with fail
        go_ret
        exact ⟨k, hk, hoks.out, .inr ⟨hlt, HZ.out, rfl⟩, HB1.out⟩
    · obtain rfl : n = k := by omega
      go_wp2_with fail
      go_ret
      exact ⟨n, hk, hoks.out, .inl ⟨rfl, rfl⟩, hb.out⟩
end Go.Proofs.Ytkogolgaggdacaa
