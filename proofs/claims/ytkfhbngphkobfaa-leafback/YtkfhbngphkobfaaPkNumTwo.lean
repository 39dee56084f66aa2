/-
  Layer 11, naming no program: addresses in their bytes' order, entries and their cells, the rule that a table goes by, a table's places as a layout.
  Layer 14, naming no program: a text's descriptor, what is wrong with one, its bytes and its sector, the way back; two valid descriptors have one sector only if they are one.
  Rows made by make: cells of a type of any size; a row of its own with no room left is a block. No program is named here.
  A number of two bytes, read byte by byte. No program is named here.
-/
import Derived.Test.YtkfhbngphkobfaaPkTabM
import Derived.Test.YtkfhbngphkobfaaPkHexM
import Derived.Test.YtkfhbngphkobfaaPkSuperM
namespace Go.Proofs.Ytkfhbngphkobfaa
open Go.RowKit
set_option linter.unusedVariables false

/-! ### The order of bytes -/
theorem less_irr : ∀ a : List UInt8, Op.bytesLess a a = false
  | [] => rfl
  | a :: x => by simp [Op.bytesLess, less_irr x]
theorem less_tri : ∀ a b : List UInt8, a ≠ b → Op.bytesLess a b = true ∨ Op.bytesLess b a = true
  | [], [], h => absurd rfl h
  | [], _ :: _, _ => .inl rfl
  | _ :: _, [], _ => .inr rfl
  | a :: x, b :: y, h => by
    simp only [Op.bytesLess, Bool.or_eq_true, Bool.and_eq_true, decide_eq_true_eq, beq_iff_eq]
    by_cases hab : a = b
    · subst hab
      have hxy : x ≠ y := fun e => h (by rw [e])
      rcases less_tri x y hxy with h1 | h1
      · exact .inl (.inr ⟨rfl, h1⟩)
      · exact .inr (.inr ⟨rfl, h1⟩)
    · have hne : a.toNat ≠ b.toNat := fun e => hab (UInt8.toNat_inj.1 e)
      rcases Nat.lt_or_gt_of_ne hne with h1 | h1
      · exact .inl (.inl (UInt8.lt_iff_toNat_lt.2 h1))
      · exact .inr (.inl (UInt8.lt_iff_toNat_lt.2 h1))
theorem less_trans : ∀ a b c : List UInt8, Op.bytesLess a b = true → Op.bytesLess b c = true → Op.bytesLess a c = true
  | _, [], _, h, _ => by simp [Op.bytesLess] at h
  | _, _ :: _, [], _, h => by simp [Op.bytesLess] at h
  | [], _ :: _, _ :: _, _, _ => rfl
  | a :: x, b :: y, c :: z, h, k => by
    simp only [Op.bytesLess, Bool.or_eq_true, Bool.and_eq_true, decide_eq_true_eq, beq_iff_eq, UInt8.lt_iff_toNat_lt] at h k ⊢
    rcases h with h | ⟨rfl, h⟩ <;> rcases k with k | ⟨rfl, k⟩
    · exact .inl (by omega)
    · exact .inl h
    · exact .inl k
    · exact .inr ⟨rfl, less_trans x y z h k⟩
theorem less_asym (a b : List UInt8) (h : Op.bytesLess a b = true) : ¬ Op.bytesLess b a = true := fun k => by
  have := less_trans a b a h k
  rw [less_irr] at this
  cases this

/-! ### Entries -/
abbrev Adr := { xs : List UInt8 // xs.length = 32 }
def zeroAdr : Adr := ⟨List.replicate 32 0, List.length_replicate ..⟩
structure Ent where
  adr : Adr
  slot : Int
  count : Int
deriving DecidableEq
def Ent.cs (e : Ent) : List Value := cells e.adr.1 ++ [.int .i64 e.slot, .int .i64 e.count]
def Ent.val (e : Ent) : Value := .agg e.cs.toArray
def zeroEnt : Ent := ⟨zeroAdr, 0, 0⟩
theorem Ent.cs_length (e : Ent) : e.cs.length = 34 := by simp [Ent.cs, cells_length, e.adr.2]
theorem Ent.one (e : Ent) : ∀ u ∈ e.cs, u.oneCell' = true := by
  intro u hu
  rcases List.mem_append.1 hu with h | h
  · exact cells_one _ u h
  · rcases List.mem_cons.1 h with rfl | h
    · rfl
    · rcases List.mem_cons.1 h with rfl | h
      · rfl
      · cases h
theorem Ent.get_slot (e : Ent) : e.cs[32]? = some (.int .i64 e.slot) := by
  rw [Ent.cs, List.getElem?_append_right (by rw [cells_length, e.adr.2]; omega), cells_length, e.adr.2]; rfl
theorem Ent.get_count (e : Ent) : e.cs[33]? = some (.int .i64 e.count) := by
  rw [Ent.cs, List.getElem?_append_right (by rw [cells_length, e.adr.2]; omega), cells_length, e.adr.2]; rfl
theorem Ent.get_adr (e : Ent) (j : Nat) (hj : j < 32) : e.cs[j]? = (cells e.adr.1)[j]? := by
  rw [Ent.cs, List.getElem?_append_left (by rw [cells_length, e.adr.2]; exact hj)]
def ents (l : List Ent) : List Value := l.flatMap Ent.cs
theorem ents_length (l : List Ent) : (ents l).length = l.length * 34 := flat_length Ent.cs_length l
theorem ents_one (l : List Ent) : ∀ u ∈ ents l, u.oneCell' = true := by
  intro u hu
  obtain ⟨s, _, h⟩ := List.mem_flatMap.1 hu
  exact Ent.one s u h
theorem ents_append (l m : List Ent) : ents (l ++ m) = ents l ++ ents m := List.flatMap_append
theorem ents_snoc (l : List Ent) (c : Ent) : ents (l ++ [c]) = ents l ++ c.cs := by rw [ents_append]; simp [ents]
theorem ents_put {l : List Ent} {i : Nat} (hi : i < l.length) (s : Ent) : putL (ents l) (i * 34) s.cs = ents (l.set i s) := flat_put Ent.cs_length hi s

section
variable {w : World} {base : Nat} {e : TypeId} {n cap g : Nat}
theorem ent_range {l : List Ent} (h : w.ownsRow base e 34 (.slice (some ⟨g, 0, none⟩) n cap) n (ents l)) {i : Nat} {c : Ent} (hi : l[i]? = some c) : w.rangeAt g (i * 34) c.cs :=
  own_range h _ _ fun j u hj => by
    have hlt := (List.getElem?_eq_some_iff.1 hj).1
    rw [Ent.cs_length] at hlt
    rw [ents, flat_get Ent.cs_length hi j hlt]
    exact hj
theorem ent_adr {l : List Ent} (h : w.ownsRow base e 34 (.slice (some ⟨g, 0, none⟩) n cap) n (ents l)) {i : Nat} {c : Ent} (hi : l[i]? = some c) : w.rangeAt g (i * 34) (cells c.adr.1) := by
  intro j u hj
  have hlt := (List.getElem?_eq_some_iff.1 hj).1
  rw [cells_length, c.adr.2] at hlt
  exact ent_range h hi j u (by rw [Ent.get_adr c j hlt]; exact hj)
theorem ent_slot {l : List Ent} (h : w.ownsRow base e 34 (.slice (some ⟨g, 0, none⟩) n cap) n (ents l)) {i : Nat} {c : Ent} (hi : l[i]? = some c) : w.cell? ⟨g, i * 34 + 32, none⟩ = some (.int .i64 c.slot) :=
  ent_range h hi 32 _ c.get_slot
theorem ent_count {l : List Ent} (h : w.ownsRow base e 34 (.slice (some ⟨g, 0, none⟩) n cap) n (ents l)) {i : Nat} {c : Ent} (hi : l[i]? = some c) : w.cell? ⟨g, i * 34 + 33, none⟩ = some (.int .i64 c.count) :=
  ent_range h hi 33 _ c.get_count
end

/-! ### The rule of a table -/
def ruleT (n : Nat) (hn : 0 < n) : Rule Adr where
  n := n
  home a := beN (a.1.take 6) % n
  lt a b := Op.bytesLess a.1 b.1 = true
  home_lt _ := Nat.mod_lt _ hn
  tri a b h := less_tri a.1 b.1 fun e => h (Subtype.ext e)
  asym a b := less_asym a.1 b.1
  trans a b c := less_trans a.1 b.1 c.1
/-- What stands in the places: an entry with no count is none. -/
def layT (l : List Ent) : Lay Ent := fun p => match l[p]? with
  | some e => if e.count = 0 then none else some e
  | none => none
theorem layT_some {l : List Ent} {p : Nat} {e : Ent} (h : layT l p = some e) : l[p]? = some e ∧ e.count ≠ 0 := by
  unfold layT at h
  split at h
  · split at h
    · cases h
    · rename_i h1 h2; cases h; exact ⟨h1, h2⟩
  · cases h
theorem layT_at {l : List Ent} {p : Nat} {e : Ent} (h : l[p]? = some e) : layT l p = if e.count = 0 then none else some e := by simp [layT, h]
theorem layT_set {l : List Ent} {p : Nat} (hp : p < l.length) {e : Ent} (he : e.count ≠ 0) : layT (l.set p e) = putP (layT l) p (some e) := by
  funext q
  by_cases hq : q = p
  · subst hq
    rw [putP_same, layT_at (e := e) (by simp [hp]), if_neg he]
  · rw [putP_other _ _ hq]
    unfold layT
    rw [List.getElem?_set_ne (fun h => hq h.symm)]
theorem layT_clear {l : List Ent} {p : Nat} (hp : p < l.length) {e : Ent} (he : e.count = 0) : layT (l.set p e) = putP (layT l) p none := by
  funext q
  by_cases hq : q = p
  · subst hq
    rw [putP_same, layT_at (e := e) (by simp [hp]), if_pos he]
  · rw [putP_other _ _ hq]
    unfold layT
    rw [List.getElem?_set_ne (fun h => hq h.symm)]
/-- Two rows of places whose empty places are the zero entry are one when their layouts are. -/
theorem layT_inj {l m : List Ent} (hl : l.length = m.length) (zl : ∀ e ∈ l, e.count = 0 → e = zeroEnt) (zm : ∀ e ∈ m, e.count = 0 → e = zeroEnt) (h : ∀ p, p < l.length → layT l p = layT m p) : l = m := by
  apply List.ext_getElem hl
  intro i h1 h2
  have e1 := layT_at (List.getElem?_eq_getElem h1)
  have e2 := layT_at (List.getElem?_eq_getElem h2)
  have := h i h1
  rw [e1, e2] at this
  split at this <;> split at this
  · rename_i a b
    rw [zl _ (List.getElem_mem h1) a, zm _ (List.getElem_mem h2) b]
  · cases this
  · cases this
  · simpa using this
end Go.Proofs.Ytkfhbngphkobfaa
namespace Go.Proofs.Ytkfhbngphkobfaa
open Go.RowKit
set_option linter.unusedVariables false

/-- What is kept of a text. -/
structure Tx where
  adr : Adr
  size : Int
  slots : List Int
  bound : Int
def slotOk (n : Int) (s : Int) : Bool := decide (0 ≤ s) && decide (s ≤ 199) && decide (s < n)
theorem slotOk_iff {n s : Int} : slotOk n s = true ↔ 0 ≤ s ∧ s ≤ 199 ∧ s < n := by simp [slotOk, and_assoc]
/-- What Check says. -/
def checkL (t : Tx) (n : Int) : Int :=
  if t.size < 1 ∨ 2048 < t.size then 15 else if t.slots.length ≠ countK t.size.toNat then 1 else if t.bound < 0 ∨ 160 < t.bound then 2 else if t.slots.all (slotOk n) = true then 0 else 2
theorem checkL_zero {t : Tx} {n : Int} : checkL t n = 0 ↔ (1 ≤ t.size ∧ t.size ≤ 2048) ∧ t.slots.length = countK t.size.toNat ∧ (0 ≤ t.bound ∧ t.bound ≤ 160) ∧ ∀ s ∈ t.slots, 0 ≤ s ∧ s ≤ 199 ∧ s < n := by
  unfold checkL
  by_cases h1 : t.size < 1 ∨ 2048 < t.size
  · rw [if_pos h1]
    exact ⟨fun h => (by cases h), fun h => by omega⟩
  rw [if_neg h1]
  by_cases h2 : t.slots.length ≠ countK t.size.toNat
  · rw [if_pos h2]
    exact ⟨fun h => (by cases h), fun h => absurd h.2.1 h2⟩
  rw [if_neg h2]
  by_cases h3 : t.bound < 0 ∨ 160 < t.bound
  · rw [if_pos h3]
    exact ⟨fun h => (by cases h), fun h => by omega⟩
  rw [if_neg h3]
  have hl : t.slots.length = countK t.size.toNat := Classical.not_not.1 h2
  by_cases h4 : t.slots.all (slotOk n) = true
  · rw [if_pos h4]
    refine ⟨fun _ => ⟨by omega, hl, by omega, fun s hs => ?_⟩, fun _ => rfl⟩
    exact slotOk_iff.1 (List.all_eq_true.1 h4 s hs)
  · rw [if_neg h4]
    refine ⟨fun h => (by cases h), fun h => absurd ?_ h4⟩
    exact List.all_eq_true.2 fun s hs => slotOk_iff.2 (h.2.2.2 s hs)
theorem checkL_less {t : Tx} {n m : Int} (h : checkL t n = 0) (hm : n ≤ m) : checkL t m = 0 := by
  obtain ⟨h1, h2, h3, h4⟩ := checkL_zero.1 h
  exact checkL_zero.2 ⟨h1, h2, h3, fun s hs => by have := h4 s hs; omega⟩
/-- Its bytes. -/
def leafMagic : List UInt8 := [76, 69, 65, 70]
def slotB (s : Int) : UInt8 := UInt8.ofNat s.toNat
def leafB (t : Tx) : List UInt8 := leafMagic ++ t.adr.1 ++ putB t.size.toNat 2 ++ putB t.bound.toNat 2 ++ t.slots.map slotB
theorem leafB_length (t : Tx) : (leafB t).length = 40 + t.slots.length := by
  have := t.adr.2
  simp only [leafB, List.length_append, putB_length, List.length_map, leafMagic, List.length_cons, List.length_nil]
  omega
/-- Its sector. -/
def padL (xs : List UInt8) : List UInt8 := xs.take 252 ++ List.replicate (252 - xs.length) 0
theorem padL_length (xs : List UInt8) : (padL xs).length = 252 := by simp only [padL, List.length_append, List.length_take, List.length_replicate]; omega
def leafS (t : Tx) : Sec := ⟨sealB (padL (leafB t)), by rw [sealB_length, padL_length]⟩
/-- What stands in a sector, if anything does. -/
def slotsAt (x : List UInt8) (k : Nat) : List Int := (List.range k).map fun i => (((x.drop 40).getD i 0).toNat : Int)
def candL (x : Sec) : Tx :=
  ⟨⟨(List.range 32).map fun i => (x.1.drop 4).getD i 0, by simp⟩, (numAt x.1 36 2 : Nat), slotsAt x.1 (min (countK (numAt x.1 36 2)) 9), (numAt x.1 38 2 : Nat)⟩
def getL (x : Sec) (n : Int) : Option Tx := if checkL (candL x) 200 = 0 ∧ leafS (candL x) = x ∧ checkL (candL x) n = 0 then some (candL x) else none

theorem get_mid (a b c : List UInt8) {i : Nat} (hi : i < b.length) : ((a ++ b ++ c).drop a.length).getD i 0 = b.getD i 0 := by
  rw [List.append_assoc, List.drop_append_of_le_length (Nat.le_refl _), List.drop_length, List.nil_append, List.getD_eq_getElem?_getD, List.getD_eq_getElem?_getD, List.getElem?_append_left hi]
theorem leafS_parts (t : Tx) (h : t.slots.length ≤ 8) : ∃ r, (leafS t).1 = leafMagic ++ t.adr.1 ++ putB t.size.toNat 2 ++ putB t.bound.toNat 2 ++ t.slots.map slotB ++ r := by
  have hl := leafB_length t
  refine ⟨List.replicate (252 - (leafB t).length) 0 ++ four (crcOf (padL (leafB t))), ?_⟩
  show sealB (padL (leafB t)) = _
  unfold sealB
  rw [padL, List.take_of_length_le (by omega)]
  rw [show leafB t = leafMagic ++ t.adr.1 ++ putB t.size.toNat 2 ++ putB t.bound.toNat 2 ++ t.slots.map slotB from rfl]
  simp only [List.append_assoc]
theorem candL_leafS {t : Tx} (h : checkL t 200 = 0) : candL (leafS t) = t := by
  obtain ⟨⟨s1, s2⟩, hl, ⟨b1, b2⟩, hs⟩ := checkL_zero.1 h
  have h8 : t.slots.length ≤ 8 := by rw [hl]; unfold countK; omega
  obtain ⟨r, e⟩ := leafS_parts t h8
  have la := t.adr.2
  have lm : leafMagic.length = 4 := rfl
  have q1 : numAt (leafS t).1 36 2 = t.size.toNat := by
    rw [e, show leafMagic ++ t.adr.1 ++ putB t.size.toNat 2 ++ putB t.bound.toNat 2 ++ t.slots.map slotB ++ r = leafMagic ++ t.adr.1 ++ putB t.size.toNat 2 ++ (putB t.bound.toNat 2 ++ t.slots.map slotB ++ r) by simp only [List.append_assoc],
      numAt_mid _ _ _ (by rw [List.length_append, lm, la]) (putB_length _ _), leN_putB]
    omega
  have q2 : numAt (leafS t).1 38 2 = t.bound.toNat := by
    rw [e, show leafMagic ++ t.adr.1 ++ putB t.size.toNat 2 ++ putB t.bound.toNat 2 ++ t.slots.map slotB ++ r = (leafMagic ++ t.adr.1 ++ putB t.size.toNat 2) ++ putB t.bound.toNat 2 ++ (t.slots.map slotB ++ r) by simp only [List.append_assoc],
      numAt_mid _ _ _ (by rw [List.length_append, List.length_append, lm, la, putB_length]) (putB_length _ _), leN_putB]
    omega
  have q3 : ((List.range 32).map fun i => ((leafS t).1.drop 4).getD i 0) = t.adr.1 := by
    apply List.ext_getElem?
    intro i
    by_cases hi : i < 32
    · rw [List.getElem?_map, List.getElem?_range hi]
      simp only [Option.map_some]
      rw [e, show leafMagic ++ t.adr.1 ++ putB t.size.toNat 2 ++ putB t.bound.toNat 2 ++ t.slots.map slotB ++ r = leafMagic ++ t.adr.1 ++ (putB t.size.toNat 2 ++ putB t.bound.toNat 2 ++ t.slots.map slotB ++ r) by simp only [List.append_assoc],
        show (4 : Nat) = leafMagic.length from rfl, get_mid _ _ _ (by omega), List.getD_eq_getElem?_getD, List.getElem?_eq_getElem (show i < t.adr.1.length by omega)]
      rfl
    · rw [List.getElem?_eq_none (by simp; omega), List.getElem?_eq_none (by omega)]
  have q4 : slotsAt (leafS t).1 t.slots.length = t.slots := by
    apply List.ext_getElem?
    intro i
    unfold slotsAt
    by_cases hi : i < t.slots.length
    · rw [List.getElem?_map, List.getElem?_range hi]
      simp only [Option.map_some]
      have hk : (leafMagic ++ t.adr.1 ++ putB t.size.toNat 2 ++ putB t.bound.toNat 2).length = 40 := by simp only [List.length_append, putB_length, lm, la]
      rw [e, ← hk, get_mid _ _ _ (by rw [List.length_map]; exact hi), List.getD_eq_getElem?_getD, List.getElem?_map, List.getElem?_eq_getElem hi]
      simp only [Option.map_some, Option.getD_some]
      have h9 := hs t.slots[i] (List.getElem_mem hi)
      congr 1
      unfold slotB
      rw [toNat_ofNat]
      omega
    · rw [List.getElem?_eq_none (by simp; omega), List.getElem?_eq_none (by omega)]
  have hmin : min (countK t.size.toNat) 9 = t.slots.length := by rw [← hl]; omega
  have q1' : numAt (leafS t).1 36 2 = t.size.toNat := q1
  unfold candL
  obtain ⟨⟨ad, had⟩, sz, sl, bo⟩ := t
  simp only at q1 q2 q3 q4 hmin s1 b1 ⊢
  rw [q1, q2, hmin, q4]
  congr 1
  · exact Subtype.ext q3
  · omega
  · omega
/-- There and back. -/
theorem getL_leafS {t : Tx} {n : Int} (h : checkL t n = 0) (hn : n ≤ 200) : getL (leafS t) n = some t := by
  have h2 := checkL_less h hn
  unfold getL
  rw [candL_leafS h2, if_pos ⟨h2, rfl, h⟩]
theorem getL_some {x : Sec} {n : Int} {t : Tx} (h : getL x n = some t) : checkL t 200 = 0 ∧ leafS t = x ∧ checkL t n = 0 := by
  unfold getL at h
  split at h
  · rename_i hc
    injection h with h
    subst h
    exact hc
  · cases h
theorem getL_iff {x : Sec} {n : Int} {t : Tx} : getL x n = some t ↔ checkL t 200 = 0 ∧ leafS t = x ∧ checkL t n = 0 :=
  ⟨getL_some, fun ⟨h1, h2, h3⟩ => by
    subst h2
    unfold getL
    rw [candL_leafS h1, if_pos ⟨h1, rfl, h3⟩]⟩
/-- One sector, one descriptor. -/
theorem leafS_one {t u : Tx} (ht : checkL t 200 = 0) (hu : checkL u 200 = 0) (h : leafS t = leafS u) : t = u := by
  rw [← candL_leafS ht, h, candL_leafS hu]
/-- Every slot that is one number made another; was there one? -/
def movedL (t : Tx) (f g : Int) : Tx := { t with slots := t.slots.map fun s => if s = f then g else s }
def metL (t : Tx) (f : Int) : Bool := t.slots.any fun s => decide (s = f)
theorem movedL_take {l : List Int} {f g : Int} {k : Nat} {s : Int} (h : l[k]? = some s) : (l.take (k + 1)).map (fun s => if s = f then g else s) = (l.take k).map (fun s => if s = f then g else s) ++ [if s = f then g else s] := by
  rw [List.take_add_one, h, List.map_append]
  rfl
theorem metL_take {l : List Int} {f : Int} {k : Nat} {s : Int} (h : l[k]? = some s) : (l.take (k + 1)).any (fun s => decide (s = f)) = ((l.take k).any (fun s => decide (s = f)) || decide (s = f)) := by
  rw [List.take_add_one, h, List.any_append]
  simp
end Go.Proofs.Ytkfhbngphkobfaa
namespace Go.Proofs.Ytkfhbngphkobfaa
open Go.RowKit
set_option linter.unusedVariables false

theorem made_list (z : Array Value) (hz : 0 < z.size) (n : Nat) : (madeCells z (n * z.size)).toList = (List.replicate n z.toList).flatten := by
  induction n with
  | zero => simp [madeCells]
  | succ n ih =>
    rw [List.replicate_succ', List.flatten_append, ← ih, Nat.succ_mul]
    apply List.ext_getElem?
    intro j
    rw [List.getElem?_append]
    have hlen : (madeCells z (n * z.size)).toList.length = n * z.size := by simp [size_madeCells]
    rw [hlen]
    split
    · rename_i h
      simp [madeCells, h, show j < n * z.size + z.size by omega]
    · rename_i h
      by_cases hj : j < n * z.size + z.size
      · have hm : j % z.size = j - n * z.size := by
          obtain ⟨k, rfl⟩ : ∃ k, j = n * z.size + k := ⟨j - n * z.size, by omega⟩
          rw [Nat.add_sub_cancel_left, Nat.mul_add_mod', Nat.mod_eq_of_lt (by omega)]
        have hk : j - n * z.size < z.size := by omega
        simp [madeCells, hj, hm, hk]
      · simp [madeCells, hj]
        omega
theorem row_of_full {w : World} {base : Nat} {e : TypeId} {size g n : Nat} {xs : List Value} (h : w.ownsRow base e size (.slice (some ⟨g, 0, none⟩) n n) n xs) : RowV w g e xs := by
  rcases h.2 with ⟨h0, _⟩ | ⟨g', cap, cur, hv, _, hg, _, _, hs, ht⟩
  · cases h0
  · simp only [Value.slice.injEq, Option.some.injEq, Addr.mk.injEq, and_true, true_and] at hv
    obtain ⟨rfl, rfl⟩ := hv
    unfold RowV
    rw [hg, ← ht, List.take_of_length_le (by rw [Array.length_toList, hs]; exact Nat.le_refl _)]
theorem own_of_row {w : World} {e : TypeId} {size g n : Nat} {xs : List Value} (h : RowV w g e xs) (hn : xs.length = n * size) (hm : n ≤ maxLen) : w.ownsRow 0 e size (.slice (some ⟨g, 0, none⟩) n n) n xs :=
  ⟨hn, .inr ⟨g, n, xs.toArray, rfl, Nat.zero_le _, h, Nat.le_refl _, hm, by simpa using hn, by rw [← hn]; simp⟩⟩
/-- Some cells of a row written. -/
theorem row_put {w : World} {e : TypeId} {g : Nat} {xs : List Value} (h : RowV w g e xs) (hm : xs.length ≤ maxLen) (news : List Value) (o : Nat) (ho : o + news.length ≤ xs.length) : RowV (w.setCells g o news) g e (putL xs o news) ∧ w.grownBy (w.setCells g o news) (some g) := by
  have := own_put news o w xs (own_of_row (size := 1) (n := xs.length) h (by simp) hm) (by simpa using ho)
  exact ⟨row_of_full this.1, this.2⟩
theorem row_there {w : World} {e : TypeId} {g : Nat} {xs : List Value} (h : RowV w g e xs) (hm : xs.length ≤ maxLen) (o m : Nat) (ho : o + m ≤ xs.length) : w.there g o m :=
  own_there (own_of_row (size := 1) (n := xs.length) h (by simp) hm) o m (by simpa using ho)
end Go.Proofs.Ytkfhbngphkobfaa
namespace Go.Proofs.Ytkfhbngphkobfaa
open Go.RowKit

theorem numAt_two {x : Sec} {i : Nat} {y z : UInt8} (hy : x.1[i]? = some y) (hz : x.1[i + 1]? = some z) : numAt x.1 i 2 = y.toNat + 256 * z.toNat := by
  obtain ⟨l, hl⟩ := x
  simp only at hy hz ⊢
  have e : (l.drop i).take 2 = [y, z] := by
    rw [List.take_add_one, List.take_add_one, List.take_zero, List.nil_append, List.getElem?_drop, List.getElem?_drop, Nat.add_zero, hy, hz]
    rfl
  rw [numAt, e]
  simp [leN]
end Go.Proofs.Ytkfhbngphkobfaa
