/-
  Layer 11, naming no program: addresses in their bytes' order, entries and their cells, the rule that a table goes by, a table's places as a layout.
  Layer 14, naming no program: a text's descriptor, what is wrong with one, its bytes and its sector, the way back; two valid descriptors have one sector only if they are one.
  Layer 15, naming no program: classes, what is wrong with one, what Add and Longer make of a list of them, their bytes and their sector, the way back; whatever is done, a class stays and its period never decreases.
  Layer 15, naming no program: the index of the classes by their names, as a map that is told; what Add and Longer make of the classes, with their codes; acts; a class as cells.
  Rows made by make: cells of a type of any size; a row of its own with no room left is a block. No program is named here.
-/
import Derived.Test.YtmcnhcbibcjgnaaPkTabM
import Derived.Test.YtmcnhcbibcjgnaaPkHexM
import Derived.Test.YtmcnhcbibcjgnaaPkSuperM
import Derived.StringKeys
namespace Go.Proofs.Ytmcnhcbibcjgnaa
open Go.RowKit
set_option linter.unusedVariables false

/-! ### The order of bytes -/
theorem less_irr : ∀ a : List UInt8, Op.bytesLess a a = false
  | [] => rfl
  | a :: x => by simp [Op.bytesLess, less_irr x]
theorem less_tri : ∀ a b : List UInt8, a ≠ b → Op.bytesLess a b = true ∨ Op.bytesLess b a = true
  | [], [], h => absurd rfl h
  | [], _ :: _, _ => .inl rfl
  | _ :: _, [], _ => .inr rfl
  | a :: x, b :: y, h => by
    simp only [Op.bytesLess, Bool.or_eq_true, Bool.and_eq_true, decide_eq_true_eq, beq_iff_eq]
    by_cases hab : a = b
    · subst hab
      have hxy : x ≠ y := fun e => h (by rw [e])
      rcases less_tri x y hxy with h1 | h1
      · exact .inl (.inr ⟨rfl, h1⟩)
      · exact .inr (.inr ⟨rfl, h1⟩)
    · have hne : a.toNat ≠ b.toNat := fun e => hab (UInt8.toNat_inj.1 e)
      rcases Nat.lt_or_gt_of_ne hne with h1 | h1
      · exact .inl (.inl (UInt8.lt_iff_toNat_lt.2 h1))
      · exact .inr (.inl (UInt8.lt_iff_toNat_lt.2 h1))
theorem less_trans : ∀ a b c : List UInt8, Op.bytesLess a b = true → Op.bytesLess b c = true → Op.bytesLess a c = true
  | _, [], _, h, _ => by simp [Op.bytesLess] at h
  | _, _ :: _, [], _, h => by simp [Op.bytesLess] at h
  | [], _ :: _, _ :: _, _, _ => rfl
  | a :: x, b :: y, c :: z, h, k => by
    simp only [Op.bytesLess, Bool.or_eq_true, Bool.and_eq_true, decide_eq_true_eq, beq_iff_eq, UInt8.lt_iff_toNat_lt] at h k ⊢
    rcases h with h | ⟨rfl, h⟩ <;> rcases k with k | ⟨rfl, k⟩
    · exact .inl (by omega)
    · exact .inl h
    · exact .inl k
    · exact .inr ⟨rfl, less_trans x y z h k⟩
theorem less_asym (a b : List UInt8) (h : Op.bytesLess a b = true) : ¬ Op.bytesLess b a = true := fun k => by
  have := less_trans a b a h k
  rw [less_irr] at this
  cases this

/-! ### Entries -/
abbrev Adr := { xs : List UInt8 // xs.length = 32 }
def zeroAdr : Adr := ⟨List.replicate 32 0, List.length_replicate ..⟩
structure Ent where
  adr : Adr
  slot : Int
  count : Int
deriving DecidableEq
def Ent.cs (e : Ent) : List Value := cells e.adr.1 ++ [.int .i64 e.slot, .int .i64 e.count]
def Ent.val (e : Ent) : Value := .agg e.cs.toArray
def zeroEnt : Ent := ⟨zeroAdr, 0, 0⟩
theorem Ent.cs_length (e : Ent) : e.cs.length = 34 := by simp [Ent.cs, cells_length, e.adr.2]
theorem Ent.one (e : Ent) : ∀ u ∈ e.cs, u.oneCell' = true := by
  intro u hu
  rcases List.mem_append.1 hu with h | h
  · exact cells_one _ u h
  · rcases List.mem_cons.1 h with rfl | h
    · rfl
    · rcases List.mem_cons.1 h with rfl | h
      · rfl
      · cases h
theorem Ent.get_slot (e : Ent) : e.cs[32]? = some (.int .i64 e.slot) := by
  rw [Ent.cs, List.getElem?_append_right (by rw [cells_length, e.adr.2]; omega), cells_length, e.adr.2]; rfl
theorem Ent.get_count (e : Ent) : e.cs[33]? = some (.int .i64 e.count) := by
  rw [Ent.cs, List.getElem?_append_right (by rw [cells_length, e.adr.2]; omega), cells_length, e.adr.2]; rfl
theorem Ent.get_adr (e : Ent) (j : Nat) (hj : j < 32) : e.cs[j]? = (cells e.adr.1)[j]? := by
  rw [Ent.cs, List.getElem?_append_left (by rw [cells_length, e.adr.2]; exact hj)]
def ents (l : List Ent) : List Value := l.flatMap Ent.cs
theorem ents_length (l : List Ent) : (ents l).length = l.length * 34 := flat_length Ent.cs_length l
theorem ents_one (l : List Ent) : ∀ u ∈ ents l, u.oneCell' = true := by
  intro u hu
  obtain ⟨s, _, h⟩ := List.mem_flatMap.1 hu
  exact Ent.one s u h
theorem ents_append (l m : List Ent) : ents (l ++ m) = ents l ++ ents m := List.flatMap_append
theorem ents_snoc (l : List Ent) (c : Ent) : ents (l ++ [c]) = ents l ++ c.cs := by rw [ents_append]; simp [ents]
theorem ents_put {l : List Ent} {i : Nat} (hi : i < l.length) (s : Ent) : putL (ents l) (i * 34) s.cs = ents (l.set i s) := flat_put Ent.cs_length hi s

section
variable {w : World} {base : Nat} {e : TypeId} {n cap g : Nat}
theorem ent_range {l : List Ent} (h : w.ownsRow base e 34 (.slice (some ⟨g, 0, none⟩) n cap) n (ents l)) {i : Nat} {c : Ent} (hi : l[i]? = some c) : w.rangeAt g (i * 34) c.cs :=
  own_range h _ _ fun j u hj => by
    have hlt := (List.getElem?_eq_some_iff.1 hj).1
    rw [Ent.cs_length] at hlt
    rw [ents, flat_get Ent.cs_length hi j hlt]
    exact hj
theorem ent_adr {l : List Ent} (h : w.ownsRow base e 34 (.slice (some ⟨g, 0, none⟩) n cap) n (ents l)) {i : Nat} {c : Ent} (hi : l[i]? = some c) : w.rangeAt g (i * 34) (cells c.adr.1) := by
  intro j u hj
  have hlt := (List.getElem?_eq_some_iff.1 hj).1
  rw [cells_length, c.adr.2] at hlt
  exact ent_range h hi j u (by rw [Ent.get_adr c j hlt]; exact hj)
theorem ent_slot {l : List Ent} (h : w.ownsRow base e 34 (.slice (some ⟨g, 0, none⟩) n cap) n (ents l)) {i : Nat} {c : Ent} (hi : l[i]? = some c) : w.cell? ⟨g, i * 34 + 32, none⟩ = some (.int .i64 c.slot) :=
  ent_range h hi 32 _ c.get_slot
theorem ent_count {l : List Ent} (h : w.ownsRow base e 34 (.slice (some ⟨g, 0, none⟩) n cap) n (ents l)) {i : Nat} {c : Ent} (hi : l[i]? = some c) : w.cell? ⟨g, i * 34 + 33, none⟩ = some (.int .i64 c.count) :=
  ent_range h hi 33 _ c.get_count
end

/-! ### The rule of a table -/
def ruleT (n : Nat) (hn : 0 < n) : Rule Adr where
  n := n
  home a := beN (a.1.take 6) % n
  lt a b := Op.bytesLess a.1 b.1 = true
  home_lt _ := Nat.mod_lt _ hn
  tri a b h := less_tri a.1 b.1 fun e => h (Subtype.ext e)
  asym a b := less_asym a.1 b.1
  trans a b c := less_trans a.1 b.1 c.1
/-- What stands in the places: an entry with no count is none. -/
def layT (l : List Ent) : Lay Ent := fun p => match l[p]? with
  | some e => if e.count = 0 then none else some e
  | none => none
theorem layT_some {l : List Ent} {p : Nat} {e : Ent} (h : layT l p = some e) : l[p]? = some e ∧ e.count ≠ 0 := by
  unfold layT at h
  split at h
  · split at h
    · cases h
    · rename_i h1 h2; cases h; exact ⟨h1, h2⟩
  · cases h
theorem layT_at {l : List Ent} {p : Nat} {e : Ent} (h : l[p]? = some e) : layT l p = if e.count = 0 then none else some e := by simp [layT, h]
theorem layT_set {l : List Ent} {p : Nat} (hp : p < l.length) {e : Ent} (he : e.count ≠ 0) : layT (l.set p e) = putP (layT l) p (some e) := by
  funext q
  by_cases hq : q = p
  · subst hq
    rw [putP_same, layT_at (e := e) (by simp [hp]), if_neg he]
  · rw [putP_other _ _ hq]
    unfold layT
    rw [List.getElem?_set_ne (fun h => hq h.symm)]
theorem layT_clear {l : List Ent} {p : Nat} (hp : p < l.length) {e : Ent} (he : e.count = 0) : layT (l.set p e) = putP (layT l) p none := by
  funext q
  by_cases hq : q = p
  · subst hq
    rw [putP_same, layT_at (e := e) (by simp [hp]), if_pos he]
  · rw [putP_other _ _ hq]
    unfold layT
    rw [List.getElem?_set_ne (fun h => hq h.symm)]
/-- Two rows of places whose empty places are the zero entry are one when their layouts are. -/
theorem layT_inj {l m : List Ent} (hl : l.length = m.length) (zl : ∀ e ∈ l, e.count = 0 → e = zeroEnt) (zm : ∀ e ∈ m, e.count = 0 → e = zeroEnt) (h : ∀ p, p < l.length → layT l p = layT m p) : l = m := by
  apply List.ext_getElem hl
  intro i h1 h2
  have e1 := layT_at (List.getElem?_eq_getElem h1)
  have e2 := layT_at (List.getElem?_eq_getElem h2)
  have := h i h1
  rw [e1, e2] at this
  split at this <;> split at this
  · rename_i a b
    rw [zl _ (List.getElem_mem h1) a, zm _ (List.getElem_mem h2) b]
  · cases this
  · cases this
  · simpa using this
end Go.Proofs.Ytmcnhcbibcjgnaa
namespace Go.Proofs.Ytmcnhcbibcjgnaa
open Go.RowKit
set_option linter.unusedVariables false

/-- What is kept of a text. -/
structure Tx where
  adr : Adr
  size : Int
  slots : List Int
  bound : Int
def slotOk (n : Int) (s : Int) : Bool := decide (0 ≤ s) && decide (s ≤ 199) && decide (s < n)
theorem slotOk_iff {n s : Int} : slotOk n s = true ↔ 0 ≤ s ∧ s ≤ 199 ∧ s < n := by simp [slotOk, and_assoc]
/-- What Check says. -/
def checkL (t : Tx) (n : Int) : Int :=
  if t.size < 1 ∨ 2048 < t.size then 15 else if t.slots.length ≠ countK t.size.toNat then 1 else if t.bound < 0 ∨ 160 < t.bound then 2 else if t.slots.all (slotOk n) = true then 0 else 2
theorem checkL_zero {t : Tx} {n : Int} : checkL t n = 0 ↔ (1 ≤ t.size ∧ t.size ≤ 2048) ∧ t.slots.length = countK t.size.toNat ∧ (0 ≤ t.bound ∧ t.bound ≤ 160) ∧ ∀ s ∈ t.slots, 0 ≤ s ∧ s ≤ 199 ∧ s < n := by
  unfold checkL
  by_cases h1 : t.size < 1 ∨ 2048 < t.size
  · rw [if_pos h1]
    exact ⟨fun h => (by cases h), fun h => by omega⟩
  rw [if_neg h1]
  by_cases h2 : t.slots.length ≠ countK t.size.toNat
  · rw [if_pos h2]
    exact ⟨fun h => (by cases h), fun h => absurd h.2.1 h2⟩
  rw [if_neg h2]
  by_cases h3 : t.bound < 0 ∨ 160 < t.bound
  · rw [if_pos h3]
    exact ⟨fun h => (by cases h), fun h => by omega⟩
  rw [if_neg h3]
  have hl : t.slots.length = countK t.size.toNat := Classical.not_not.1 h2
  by_cases h4 : t.slots.all (slotOk n) = true
  · rw [if_pos h4]
    refine ⟨fun _ => ⟨by omega, hl, by omega, fun s hs => ?_⟩, fun _ => rfl⟩
    exact slotOk_iff.1 (List.all_eq_true.1 h4 s hs)
  · rw [if_neg h4]
    refine ⟨fun h => (by cases h), fun h => absurd ?_ h4⟩
    exact List.all_eq_true.2 fun s hs => slotOk_iff.2 (h.2.2.2 s hs)
theorem checkL_less {t : Tx} {n m : Int} (h : checkL t n = 0) (hm : n ≤ m) : checkL t m = 0 := by
  obtain ⟨h1, h2, h3, h4⟩ := checkL_zero.1 h
  exact checkL_zero.2 ⟨h1, h2, h3, fun s hs => by have := h4 s hs; omega⟩
/-- Its bytes. -/
def leafMagic : List UInt8 := [76, 69, 65, 70]
def slotB (s : Int) : UInt8 := UInt8.ofNat s.toNat
def leafB (t : Tx) : List UInt8 := leafMagic ++ t.adr.1 ++ putB t.size.toNat 2 ++ putB t.bound.toNat 2 ++ t.slots.map slotB
theorem leafB_length (t : Tx) : (leafB t).length = 40 + t.slots.length := by
  have := t.adr.2
  simp only [leafB, List.length_append, putB_length, List.length_map, leafMagic, List.length_cons, List.length_nil]
  omega
/-- Its sector. -/
def padL (xs : List UInt8) : List UInt8 := xs.take 252 ++ List.replicate (252 - xs.length) 0
theorem padL_length (xs : List UInt8) : (padL xs).length = 252 := by simp only [padL, List.length_append, List.length_take, List.length_replicate]; omega
def leafS (t : Tx) : Sec := ⟨sealB (padL (leafB t)), by rw [sealB_length, padL_length]⟩
/-- What stands in a sector, if anything does. -/
def slotsAt (x : List UInt8) (k : Nat) : List Int := (List.range k).map fun i => (((x.drop 40).getD i 0).toNat : Int)
def candL (x : Sec) : Tx :=
  ⟨⟨(List.range 32).map fun i => (x.1.drop 4).getD i 0, by simp⟩, (numAt x.1 36 2 : Nat), slotsAt x.1 (min (countK (numAt x.1 36 2)) 9), (numAt x.1 38 2 : Nat)⟩
def getL (x : Sec) (n : Int) : Option Tx := if checkL (candL x) 200 = 0 ∧ leafS (candL x) = x ∧ checkL (candL x) n = 0 then some (candL x) else none

theorem get_mid (a b c : List UInt8) {i : Nat} (hi : i < b.length) : ((a ++ b ++ c).drop a.length).getD i 0 = b.getD i 0 := by
  rw [List.append_assoc, List.drop_append_of_le_length (Nat.le_refl _), List.drop_length, List.nil_append, List.getD_eq_getElem?_getD, List.getD_eq_getElem?_getD, List.getElem?_append_left hi]
theorem leafS_parts (t : Tx) (h : t.slots.length ≤ 8) : ∃ r, (leafS t).1 = leafMagic ++ t.adr.1 ++ putB t.size.toNat 2 ++ putB t.bound.toNat 2 ++ t.slots.map slotB ++ r := by
  have hl := leafB_length t
  refine ⟨List.replicate (252 - (leafB t).length) 0 ++ four (crcOf (padL (leafB t))), ?_⟩
  show sealB (padL (leafB t)) = _
  unfold sealB
  rw [padL, List.take_of_length_le (by omega)]
  rw [show leafB t = leafMagic ++ t.adr.1 ++ putB t.size.toNat 2 ++ putB t.bound.toNat 2 ++ t.slots.map slotB from rfl]
  simp only [List.append_assoc]
theorem candL_leafS {t : Tx} (h : checkL t 200 = 0) : candL (leafS t) = t := by
  obtain ⟨⟨s1, s2⟩, hl, ⟨b1, b2⟩, hs⟩ := checkL_zero.1 h
  have h8 : t.slots.length ≤ 8 := by rw [hl]; unfold countK; omega
  obtain ⟨r, e⟩ := leafS_parts t h8
  have la := t.adr.2
  have lm : leafMagic.length = 4 := rfl
  have q1 : numAt (leafS t).1 36 2 = t.size.toNat := by
    rw [e, show leafMagic ++ t.adr.1 ++ putB t.size.toNat 2 ++ putB t.bound.toNat 2 ++ t.slots.map slotB ++ r = leafMagic ++ t.adr.1 ++ putB t.size.toNat 2 ++ (putB t.bound.toNat 2 ++ t.slots.map slotB ++ r) by simp only [List.append_assoc],
      numAt_mid _ _ _ (by rw [List.length_append, lm, la]) (putB_length _ _), leN_putB]
    omega
  have q2 : numAt (leafS t).1 38 2 = t.bound.toNat := by
    rw [e, show leafMagic ++ t.adr.1 ++ putB t.size.toNat 2 ++ putB t.bound.toNat 2 ++ t.slots.map slotB ++ r = (leafMagic ++ t.adr.1 ++ putB t.size.toNat 2) ++ putB t.bound.toNat 2 ++ (t.slots.map slotB ++ r) by simp only [List.append_assoc],
      numAt_mid _ _ _ (by rw [List.length_append, List.length_append, lm, la, putB_length]) (putB_length _ _), leN_putB]
    omega
  have q3 : ((List.range 32).map fun i => ((leafS t).1.drop 4).getD i 0) = t.adr.1 := by
    apply List.ext_getElem?
    intro i
    by_cases hi : i < 32
    · rw [List.getElem?_map, List.getElem?_range hi]
      simp only [Option.map_some]
      rw [e, show leafMagic ++ t.adr.1 ++ putB t.size.toNat 2 ++ putB t.bound.toNat 2 ++ t.slots.map slotB ++ r = leafMagic ++ t.adr.1 ++ (putB t.size.toNat 2 ++ putB t.bound.toNat 2 ++ t.slots.map slotB ++ r) by simp only [List.append_assoc],
        show (4 : Nat) = leafMagic.length from rfl, get_mid _ _ _ (by omega), List.getD_eq_getElem?_getD, List.getElem?_eq_getElem (show i < t.adr.1.length by omega)]
      rfl
    · rw [List.getElem?_eq_none (by simp; omega), List.getElem?_eq_none (by omega)]
  have q4 : slotsAt (leafS t).1 t.slots.length = t.slots := by
    apply List.ext_getElem?
    intro i
    unfold slotsAt
    by_cases hi : i < t.slots.length
    · rw [List.getElem?_map, List.getElem?_range hi]
      simp only [Option.map_some]
      have hk : (leafMagic ++ t.adr.1 ++ putB t.size.toNat 2 ++ putB t.bound.toNat 2).length = 40 := by simp only [List.length_append, putB_length, lm, la]
      rw [e, ← hk, get_mid _ _ _ (by rw [List.length_map]; exact hi), List.getD_eq_getElem?_getD, List.getElem?_map, List.getElem?_eq_getElem hi]
      simp only [Option.map_some, Option.getD_some]
      have h9 := hs t.slots[i] (List.getElem_mem hi)
      congr 1
      unfold slotB
      rw [toNat_ofNat]
      omega
    · rw [List.getElem?_eq_none (by simp; omega), List.getElem?_eq_none (by omega)]
  have hmin : min (countK t.size.toNat) 9 = t.slots.length := by rw [← hl]; omega
  have q1' : numAt (leafS t).1 36 2 = t.size.toNat := q1
  unfold candL
  obtain ⟨⟨ad, had⟩, sz, sl, bo⟩ := t
  simp only at q1 q2 q3 q4 hmin s1 b1 ⊢
  rw [q1, q2, hmin, q4]
  congr 1
  · exact Subtype.ext q3
  · omega
  · omega
/-- There and back. -/
theorem getL_leafS {t : Tx} {n : Int} (h : checkL t n = 0) (hn : n ≤ 200) : getL (leafS t) n = some t := by
  have h2 := checkL_less h hn
  unfold getL
  rw [candL_leafS h2, if_pos ⟨h2, rfl, h⟩]
theorem getL_some {x : Sec} {n : Int} {t : Tx} (h : getL x n = some t) : checkL t 200 = 0 ∧ leafS t = x ∧ checkL t n = 0 := by
  unfold getL at h
  split at h
  · rename_i hc
    injection h with h
    subst h
    exact hc
  · cases h
theorem getL_iff {x : Sec} {n : Int} {t : Tx} : getL x n = some t ↔ checkL t 200 = 0 ∧ leafS t = x ∧ checkL t n = 0 :=
  ⟨getL_some, fun ⟨h1, h2, h3⟩ => by
    subst h2
    unfold getL
    rw [candL_leafS h1, if_pos ⟨h1, rfl, h3⟩]⟩
/-- One sector, one descriptor. -/
theorem leafS_one {t u : Tx} (ht : checkL t 200 = 0) (hu : checkL u 200 = 0) (h : leafS t = leafS u) : t = u := by
  rw [← candL_leafS ht, h, candL_leafS hu]
/-- Every slot that is one number made another; was there one? -/
def movedL (t : Tx) (f g : Int) : Tx := { t with slots := t.slots.map fun s => if s = f then g else s }
def metL (t : Tx) (f : Int) : Bool := t.slots.any fun s => decide (s = f)
theorem movedL_take {l : List Int} {f g : Int} {k : Nat} {s : Int} (h : l[k]? = some s) : (l.take (k + 1)).map (fun s => if s = f then g else s) = (l.take k).map (fun s => if s = f then g else s) ++ [if s = f then g else s] := by
  rw [List.take_add_one, h, List.map_append]
  rfl
theorem metL_take {l : List Int} {f : Int} {k : Nat} {s : Int} (h : l[k]? = some s) : (l.take (k + 1)).any (fun s => decide (s = f)) = ((l.take k).any (fun s => decide (s = f)) || decide (s = f)) := by
  rw [List.take_add_one, h, List.any_append]
  simp
end Go.Proofs.Ytmcnhcbibcjgnaa
namespace Go.Proofs.Ytmcnhcbibcjgnaa
open Go.RowKit
set_option linter.unusedVariables false

structure Cl where
  name : List UInt8
  period : Int
  event : Bool
  priv : Bool
  deriving DecidableEq
def chOk (c : UInt8) : Bool := (decide (97 ≤ c.toNat) && decide (c.toNat ≤ 122)) || (decide (48 ≤ c.toNat) && decide (c.toNat ≤ 57)) || decide (c.toNat = 45)
def nameOk (s : List UInt8) : Bool := decide (1 ≤ s.length) && decide (s.length ≤ 15) && s.all chOk
theorem nameOk_iff {s : List UInt8} : nameOk s = true ↔ 1 ≤ s.length ∧ s.length ≤ 15 ∧ ∀ c ∈ s, chOk c = true := by simp [nameOk, and_assoc]
def perOk (p : Int) : Bool := decide (0 ≤ p) && decide (p ≤ 1099511627776)
theorem perOk_iff {p : Int} : perOk p = true ↔ 0 ≤ p ∧ p ≤ 1099511627776 := by simp [perOk]
def Cl.ok (c : Cl) : Bool := nameOk c.name && perOk c.period
/-- The codes of Name and of Check (N, R: the numbers of ErrName and ErrRange). -/
def nameC (N : Int) (s : List UInt8) : Int := if nameOk s = true then 0 else N
def checkC (N R : Int) (c : Cl) : Int := if nameOk c.name = true then (if perOk c.period = true then 0 else R) else N
theorem checkC_zero {N R : Int} (hN : N ≠ 0) (hR : R ≠ 0) {c : Cl} : checkC N R c = 0 ↔ c.ok = true := by
  unfold checkC Cl.ok
  cases h1 : nameOk c.name <;> cases h2 : perOk c.period <;> simp [hN, hR]
/-- Where a name stands. -/
def findC (l : List Cl) (s : List UInt8) : Option Nat := l.findIdx? fun c => decide (c.name = s)
theorem findC_some {l : List Cl} {s : List UInt8} {i : Nat} (h : findC l s = some i) : ∃ c, l[i]? = some c ∧ c.name = s := by
  unfold findC at h
  rw [List.findIdx?_eq_some_iff_getElem] at h
  obtain ⟨hi, hc, _⟩ := h
  exact ⟨l[i], List.getElem?_eq_getElem hi, by simpa using hc⟩
theorem findC_none {l : List Cl} {s : List UInt8} (h : findC l s = none) : ∀ c ∈ l, c.name ≠ s := by
  unfold findC at h
  rw [List.findIdx?_eq_none_iff] at h
  intro c hc e
  have := h c hc
  simp [e] at this
/-- What Add and Longer make of the classes, when they do. -/
def putAt (l : List Cl) (i : Nat) (p : Int) : List Cl := l.modify i fun c => { c with period := p }
theorem putAt_length (l : List Cl) (i : Nat) (p : Int) : (putAt l i p).length = l.length := by simp [putAt]
theorem putAt_get (l : List Cl) (i j : Nat) (p : Int) : (putAt l i p)[j]? = if i = j then l[j]?.map (fun c => { c with period := p }) else l[j]? := by
  unfold putAt
  rw [List.getElem?_modify]
  by_cases h : i = j <;> simp [h]

/-- Nothing is shortened. -/
def Stays15 (l m : List Cl) : Prop := ∀ (i : Nat) (c : Cl), l[i]? = some c → ∃ d, m[i]? = some d ∧ d.name = c.name ∧ d.event = c.event ∧ d.priv = c.priv ∧ c.period ≤ d.period
theorem Stays15.refl (l : List Cl) : Stays15 l l := fun i c h => ⟨c, h, rfl, rfl, rfl, Int.le_refl _⟩
theorem Stays15.trans {l m k : List Cl} (h : Stays15 l m) (h' : Stays15 m k) : Stays15 l k := fun i c hc => by
  obtain ⟨d, h1, h2, h3, h4, h5⟩ := h i c hc
  obtain ⟨e, g1, g2, g3, g4, g5⟩ := h' i d h1
  exact ⟨e, g1, g2.trans h2, g3.trans h3, g4.trans h4, Int.le_trans h5 g5⟩
theorem Stays15.snoc (l : List Cl) (c : Cl) : Stays15 l (l ++ [c]) := fun i d h => by
  have hi := (List.getElem?_eq_some_iff.1 h).1
  exact ⟨d, by rw [List.getElem?_append_left hi]; exact h, rfl, rfl, rfl, Int.le_refl _⟩
theorem Stays15.put {l : List Cl} {i : Nat} {c : Cl} {p : Int} (hc : l[i]? = some c) (hp : c.period ≤ p) : Stays15 l (putAt l i p) := fun j d h => by
  by_cases e : i = j
  · subst e
    rw [hc] at h
    injection h with h
    subst h
    exact ⟨{ c with period := p }, by rw [putAt_get, if_pos rfl, hc]; rfl, rfl, rfl, rfl, hp⟩
  · exact ⟨d, by rw [putAt_get, if_neg e]; exact h, rfl, rfl, rfl, Int.le_refl _⟩

/-- A list that Add and Longer can make. -/
structure SetOk (l : List Cl) : Prop where
  len : l.length ≤ 8
  ok : ∀ c ∈ l, c.ok = true
  one : ∀ (i j : Nat) (c d : Cl), l[i]? = some c → l[j]? = some d → c.name = d.name → i = j
theorem SetOk.nil : SetOk [] := ⟨by simp, (fun c h => by cases h), (fun i j c d h => by rw [List.getElem?_nil] at h; cases h)⟩
theorem SetOk.snoc {l : List Cl} {c : Cl} (h : SetOk l) (hl : l.length < 8) (hc : c.ok = true) (hn : ∀ d ∈ l, d.name ≠ c.name) : SetOk (l ++ [c]) := by
  refine ⟨by rw [List.length_append]; simp; omega, fun d hd => ?_, ?_⟩
  · rw [List.mem_append, List.mem_singleton] at hd
    rcases hd with hd | rfl
    · exact h.ok d hd
    · exact hc
  · intro i j x y hx hy e
    have key : ∀ (k : Nat) (z : Cl), (l ++ [c])[k]? = some z → (k < l.length ∧ l[k]? = some z) ∨ (k = l.length ∧ z = c) := by
      intro k z hz
      by_cases hk : k < l.length
      · exact .inl ⟨hk, by rwa [List.getElem?_append_left hk] at hz⟩
      · rw [List.getElem?_append_right (by omega)] at hz
        have : k - l.length = 0 := by
          have := (List.getElem?_eq_some_iff.1 hz).1
          simp at this
          omega
        rw [this] at hz
        exact .inr ⟨by omega, (Option.some.inj hz).symm⟩
    rcases key i x hx with ⟨_, h1⟩ | ⟨h1, rfl⟩ <;> rcases key j y hy with ⟨_, h2⟩ | ⟨h2, rfl⟩
    · exact h.one i j x y h1 h2 e
    · exact absurd e (hn x (List.mem_of_getElem? h1))
    · exact absurd e.symm (hn y (List.mem_of_getElem? h2))
    · omega
theorem SetOk.put {l : List Cl} {i : Nat} {p : Int} (h : SetOk l) (hp : perOk p = true) : SetOk (putAt l i p) := by
  have back : ∀ (k : Nat) (z : Cl), (putAt l i p)[k]? = some z → ∃ c, l[k]? = some c ∧ c.name = z.name ∧ (z = c ∨ z = { c with period := p }) := by
    intro k z hz
    rw [putAt_get] at hz
    by_cases e : i = k
    · rw [if_pos e] at hz
      obtain ⟨c, hc, rfl⟩ := Option.map_eq_some_iff.1 hz
      exact ⟨c, hc, rfl, .inr rfl⟩
    · rw [if_neg e] at hz
      exact ⟨z, hz, rfl, .inl rfl⟩
  refine ⟨by rw [putAt_length]; exact h.len, fun d hd => ?_, fun a b x y hx hy e => ?_⟩
  · obtain ⟨k, hk⟩ := List.mem_iff_getElem?.1 hd
    obtain ⟨c, hc, _, rfl | rfl⟩ := back k d hk
    · exact h.ok _ (List.mem_of_getElem? hc)
    · have := h.ok c (List.mem_of_getElem? hc)
      simp only [Cl.ok, Bool.and_eq_true] at this ⊢
      exact ⟨this.1, hp⟩
  · obtain ⟨c, hc, e1, _⟩ := back a x hx
    obtain ⟨d, hd, e2, _⟩ := back b y hy
    exact h.one a b c d hc hd (by rw [e1, e2]; exact e)

/-! ### Bytes -/
def flagBits (ev pr : Bool) : UInt8 := (if ev then 1 else 0) + (if pr then 2 else 0)
theorem flag_ev : ∀ ev pr : Bool, decide ((flagBits ev pr).toNat % 2 = 1) = ev := by decide
theorem flag_pr : ∀ ev pr : Bool, decide ((flagBits ev pr).toNat / 2 % 2 = 1) = pr := by decide
def flagB (c : Cl) : UInt8 := flagBits c.event c.priv
def padN (s : List UInt8) : List UInt8 := (UInt8.ofNat s.length :: s) ++ List.replicate (15 - s.length) 0
theorem padN_length {s : List UInt8} (h : s.length ≤ 15) : (padN s).length = 16 := by simp [padN]; omega
def clB (c : Cl) : List UInt8 := padN c.name ++ (putB c.period.toNat 6 ++ [flagB c])
theorem clB_length {c : Cl} (h : c.name.length ≤ 15) : (clB c).length = 23 := by
  have := padN_length h
  simp only [clB, List.length_append, putB_length, List.length_cons, List.length_nil]
  omega
def clsB (l : List Cl) : List UInt8 := UInt8.ofNat l.length :: l.flatMap clB
def clsS (l : List Cl) : Sec := ⟨sealB (padL (clsB l)), by rw [sealB_length, padL_length]⟩
/-- The class that stands from a byte on. -/
def clAt (x : List UInt8) (o : Nat) : Cl :=
  ⟨(x.drop (o + 1)).take (x.getD o 0).toNat, ((leN ((x.drop (o + 16)).take 6) : Nat) : Int), decide ((x.getD (o + 22) 0).toNat % 2 = 1), decide ((x.getD (o + 22) 0).toNat / 2 % 2 = 1)⟩
theorem clAt_back {c : Cl} (h : c.ok = true) (a b : List UInt8) : clAt (a ++ (clB c ++ b)) a.length = c := by
  simp only [Cl.ok, Bool.and_eq_true] at h
  obtain ⟨h1, h2, h3⟩ := nameOk_iff.1 h.1
  obtain ⟨p1, p2⟩ := perOk_iff.1 h.2
  have lp := padN_length h2
  have d0 : ∀ k (ys : List UInt8), (a ++ ys).drop (a.length + k) = ys.drop k := fun k ys => by rw [List.drop_append]; simp
  have g0 : ∀ k (ys : List UInt8), (a ++ ys).getD (a.length + k) 0 = ys.getD k 0 := fun k ys => by
    rw [List.getD_eq_getElem?_getD, List.getD_eq_getElem?_getD, List.getElem?_append_right (by omega), Nat.add_sub_cancel_left]
  have c0 : (a ++ (clB c ++ b)).getD a.length 0 = UInt8.ofNat c.name.length := by
    have := g0 0 (clB c ++ b)
    rw [Nat.add_zero] at this
    rw [this, clB, padN]
    rfl
  have hn : (UInt8.ofNat c.name.length).toNat = c.name.length := by rw [toNat_ofNat]; omega
  have c1 : ((a ++ (clB c ++ b)).drop (a.length + 1)).take c.name.length = c.name := by
    rw [d0, clB, padN]
    simp only [List.cons_append, List.drop_succ_cons, List.drop_zero, List.append_assoc]
    rw [List.take_append_of_le_length (Nat.le_refl _), List.take_length]
  have c2 : ((a ++ (clB c ++ b)).drop (a.length + 16)).take 6 = putB c.period.toNat 6 := by
    rw [d0, clB, List.append_assoc, List.drop_append_of_le_length (by omega), List.drop_of_length_le (by omega), List.nil_append, List.append_assoc, List.take_append_of_le_length (by rw [putB_length]; omega), List.take_of_length_le (by rw [putB_length]; omega)]
  have c3 : (a ++ (clB c ++ b)).getD (a.length + 22) 0 = flagB c := by
    rw [g0, clB, List.append_assoc, List.getD_eq_getElem?_getD, List.getElem?_append_right (by omega), lp, List.append_assoc, List.getElem?_append_right (by rw [putB_length]; omega), putB_length]
    rfl
  unfold clAt
  rw [c0, hn, c1, c2, c3, leN_putB]
  obtain ⟨nm, pe, ev, pr⟩ := c
  simp only at p1 p2 ⊢
  have e6 : ((pe.toNat % 256 ^ 6 : Nat) : Int) = pe := by omega
  rw [e6]
  rw [show flagB ⟨nm, pe, ev, pr⟩ = flagBits ev pr from rfl, flag_ev, flag_pr]
theorem cls_split {l : List Cl} (h : SetOk l) {i : Nat} {c : Cl} (hc : l[i]? = some c) : ∃ a r, (clsS l).1 = a ++ (clB c ++ r) ∧ a.length = 1 + 23 * i := by
  have hi := (List.getElem?_eq_some_iff.1 hc).1
  have hl23 : ∀ m : List Cl, (∀ x ∈ m, x.ok = true) → (m.flatMap clB).length = 23 * m.length := by
    intro m
    induction m with
    | nil => intro _; rfl
    | cons x m ih =>
      intro hm
      have hx := hm x (by simp)
      simp only [Cl.ok, Bool.and_eq_true] at hx
      rw [List.flatMap_cons, List.length_append, clB_length (nameOk_iff.1 hx.1).2.1, ih (fun y hy => hm y (by simp [hy])), List.length_cons]
      omega
  have hlen : (clsB l).length = 1 + 23 * l.length := by rw [clsB, List.length_cons, hl23 l h.ok]; omega
  have h8 := h.len
  have e : l = l.take i ++ (c :: l.drop (i + 1)) := by
    have h2 : l[i] = c := (List.getElem?_eq_some_iff.1 hc).2
    rw [← h2, ← List.drop_eq_getElem_cons hi, List.take_append_drop]
  have e2 : l.flatMap clB = (l.take i).flatMap clB ++ (clB c ++ (l.drop (i + 1)).flatMap clB) := by
    conv => lhs; rw [e]
    rw [List.flatMap_append, List.flatMap_cons]
  refine ⟨UInt8.ofNat l.length :: (l.take i).flatMap clB, (l.drop (i + 1)).flatMap clB ++ (List.replicate (252 - (clsB l).length) 0 ++ four (crcOf (padL (clsB l)))), ?_, ?_⟩
  · show sealB (padL (clsB l)) = _
    unfold sealB
    rw [padL, List.take_of_length_le (by omega)]
    rw [show clsB l = UInt8.ofNat l.length :: l.flatMap clB from rfl, e2]
    simp only [List.append_assoc, List.cons_append]
  · rw [List.length_cons, hl23 _ (fun x hx => h.ok x (List.mem_of_mem_take hx)), List.length_take]
    omega
/-- What stands in a sector, if anything does. -/
def candC (x : Sec) : List Cl := (List.range (min (x.1.getD 0 0).toNat 8)).map fun i => clAt x.1 (1 + 23 * i)
theorem candC_clsS {l : List Cl} (h : SetOk l) : candC (clsS l) = l := by
  have h8 := h.len
  have e0 : ((clsS l).1.getD 0 0).toNat = l.length := by
    have : (clsS l).1.getD 0 0 = UInt8.ofNat l.length := by
      show (sealB (padL (clsB l))).getD 0 0 = _
      rw [show clsB l = UInt8.ofNat l.length :: l.flatMap clB from rfl, padL, List.take_succ_cons]
      rfl
    rw [this, toNat_ofNat]
    omega
  unfold candC
  rw [e0, show min l.length 8 = l.length by omega]
  apply List.ext_getElem?
  intro i
  by_cases hi : i < l.length
  · rw [List.getElem?_map, List.getElem?_range hi, List.getElem?_eq_getElem hi]
    simp only [Option.map_some]
    obtain ⟨a, r, e1, e2⟩ := cls_split h (List.getElem?_eq_getElem hi)
    rw [e1, ← e2, clAt_back (h.ok _ (List.getElem_mem hi))]
  · rw [List.getElem?_eq_none (by simp; omega), List.getElem?_eq_none (by omega)]
/-- One sector, one list. -/
theorem clsS_one {l m : List Cl} (hl : SetOk l) (hm : SetOk m) (h : clsS l = clsS m) : l = m := by rw [← candC_clsS hl, h, candC_clsS hm]
end Go.Proofs.Ytmcnhcbibcjgnaa
namespace Go.Proofs.Ytmcnhcbibcjgnaa
open Go.RowKit Go.Maps Go.ChangeMaps Go.MapKept Go.WideShapes
set_option linter.unusedVariables false

/-! ### The index -/
def idxN (l : List (List UInt8)) : DataW Unit := (l.foldl (fun (p : DataW Unit × Nat) s => (p.1.put (.string s) (.lit (.int .i64 (p.2 : Int))), p.2 + 1)) (.map [], 0)).1
theorem idxN_num (l : List (List UInt8)) : (l.foldl (fun (p : DataW Unit × Nat) s => (p.1.put (.string s) (.lit (.int .i64 (p.2 : Int))), p.2 + 1)) (.map [], 0)).2 = l.length := by
  induction l using snocInd with
  | nil => rfl
  | append_singleton l c ih => rw [List.foldl_append, List.length_append]; simp only [List.foldl_cons, List.foldl_nil, ih, List.length_cons, List.length_nil]
theorem idxN_snoc (l : List (List UInt8)) (s : List UInt8) : idxN (l ++ [s]) = (idxN l).put (.string s) (.lit (.int .i64 (l.length : Int))) := by
  unfold idxN
  rw [List.foldl_append]
  simp only [List.foldl_cons, List.foldl_nil]
  rw [idxN_num]
theorem idxN_isMap (l : List (List UInt8)) : IsMap (idxN l) := by
  induction l using snocInd with
  | nil => exact ⟨[], rfl⟩
  | append_singleton l c ih => rw [idxN_snoc]; exact ih.put _ _
theorem keyLit_str {s : List UInt8} : WideAt.IsKeyLit (.string s) := by simp [WideAt.IsKeyLit]
def idxD (l : List Cl) : DataW Unit := idxN (l.map Cl.name)
theorem idxD_nil : idxD [] = .map [] := rfl
theorem idxD_snoc (l : List Cl) (c : Cl) : idxD (l ++ [c]) = (idxD l).put (.string c.name) (.lit (.int .i64 (l.length : Int))) := by
  unfold idxD
  rw [List.map_append, List.map_cons, List.map_nil, idxN_snoc, List.length_map]
theorem putAt_names (l : List Cl) (i : Nat) (p : Int) : (putAt l i p).map Cl.name = l.map Cl.name := by
  apply List.ext_getElem?
  intro j
  rw [List.getElem?_map, List.getElem?_map, putAt_get]
  split
  · cases l[j]? <;> rfl
  · rfl
theorem idxD_put (l : List Cl) (i : Nat) (p : Int) : idxD (putAt l i p) = idxD l := by unfold idxD; rw [putAt_names]
theorem findC_names (l : List Cl) (s : List UInt8) : findC l s = (l.map Cl.name).findIdx? fun n => decide (n = s) := by
  unfold findC
  rw [List.findIdx?_map]
  rfl
theorem findC_put (l : List Cl) (i : Nat) (p : Int) (s : List UInt8) : findC (putAt l i p) s = findC l s := by rw [findC_names, findC_names, putAt_names]
theorem findC_nil (s : List UInt8) : findC [] s = none := rfl
theorem findC_snoc (l : List Cl) (c : Cl) (s : List UInt8) : findC (l ++ [c]) s = (findC l s).or (if c.name = s then some l.length else none) := by
  unfold findC
  rw [List.findIdx?_append]
  congr 1
  by_cases h : c.name = s <;> simp [h]
/-- What the map tells is what a search finds. -/
theorem idxD_tells {l : List Cl} (h : ∀ (i j : Nat) (c d : Cl), l[i]? = some c → l[j]? = some d → c.name = d.name → i = j) (s : List UInt8) :
    (∃ i : Nat, findC l s = some i ∧ Maps.has (idxD l) (.string s) = true ∧ ∀ z, (idxD l).atKey (.string s) z = .lit (.int .i64 (i : Int))) ∨ (findC l s = none ∧ Maps.has (idxD l) (.string s) = false ∧ ∀ z, (idxD l).atKey (.string s) z = z) := by
  induction l using snocInd with
  | nil => exact .inr ⟨rfl, rfl, fun z => rfl⟩
  | append_singleton l c ih =>
    have hl : ∀ (i j : Nat) (c d : Cl), l[i]? = some c → l[j]? = some d → c.name = d.name → i = j := fun i j x y hx hy e =>
      h i j x y (by rw [List.getElem?_append_left (List.getElem?_eq_some_iff.1 hx).1]; exact hx) (by rw [List.getElem?_append_left (List.getElem?_eq_some_iff.1 hy).1]; exact hy) e
    rw [idxD_snoc, findC_snoc]
    by_cases e : c.name = s
    · subst e
      have hn : findC l c.name = none := by
        cases hf : findC l c.name with
        | none => rfl
        | some i =>
          exfalso
          obtain ⟨d, hd, hn⟩ := findC_some hf
          have hi := (List.getElem?_eq_some_iff.1 hd).1
          have := h i l.length d c (by rw [List.getElem?_append_left hi]; exact hd) (by simp) hn
          omega
      refine .inl ⟨l.length, ?_, has_put_same (idxN_isMap _) keyLit_str _, fun z => atKey_put_same (idxN_isMap _) keyLit_str _ _⟩
      rw [hn, if_pos rfl]
      rfl
    · have hne : (Lit.string s) ≠ .string c.name := by
        intro h
        injection h with h
        exact e h.symm
      rw [has_put_other hne, if_neg e, Option.or_none]
      rcases ih hl with ⟨i, h1, h2, h3⟩ | ⟨h1, h2, h3⟩
      · exact .inl ⟨i, h1, h2, fun z => by rw [atKey_put_other hne]; exact h3 z⟩
      · exact .inr ⟨h1, h2, fun z => by rw [atKey_put_other hne]; exact h3 z⟩

/-! ### Add and Longer, with their codes -/
def addC (l : List Cl) (c : Cl) : List Cl × Int :=
  if checkC 10 2 c ≠ 0 then (l, checkC 10 2 c) else if (findC l c.name).isSome then (l, 9) else if 8 ≤ l.length then (l, 7) else (l ++ [c], 0)
def perAt (l : List Cl) (i : Nat) : Int := ((l[i]?).map Cl.period).getD 0
def longC (l : List Cl) (s : List UInt8) (p : Int) : List Cl × Int :=
  match findC l s with
  | none => (l, 8)
  | some i => if perOk p = false then (l, 2) else if p < perAt l i then (l, 12) else (putAt l i p, 0)
theorem perAt_of {l : List Cl} {i : Nat} {c : Cl} (h : l[i]? = some c) : perAt l i = c.period := by rw [perAt, h]; rfl
theorem addC_bad {l : List Cl} {c : Cl} (h : checkC 10 2 c ≠ 0) : addC l c = (l, checkC 10 2 c) := by unfold addC; rw [if_pos h]
theorem addC_twice {l : List Cl} {c : Cl} {i : Nat} (h : checkC 10 2 c = 0) (hf : findC l c.name = some i) : addC l c = (l, 9) := by unfold addC; rw [if_neg (by simp [h]), hf]; rfl
theorem addC_full {l : List Cl} {c : Cl} (h : checkC 10 2 c = 0) (hf : findC l c.name = none) (hl : 8 ≤ l.length) : addC l c = (l, 7) := by unfold addC; rw [if_neg (by simp [h]), hf, if_neg (by simp), if_pos hl]
theorem addC_yes {l : List Cl} {c : Cl} (h : checkC 10 2 c = 0) (hf : findC l c.name = none) (hl : l.length < 8) : addC l c = (l ++ [c], 0) := by unfold addC; rw [if_neg (by simp [h]), hf, if_neg (by simp), if_neg (by omega)]
theorem longC_none {l : List Cl} {s : List UInt8} {p : Int} (h : findC l s = none) : longC l s p = (l, 8) := by unfold longC; rw [h]
theorem longC_range {l : List Cl} {s : List UInt8} {p : Int} {i : Nat} (h : findC l s = some i) (hp : perOk p = false) : longC l s p = (l, 2) := by unfold longC; rw [h]; simp [hp]
theorem longC_kept {l : List Cl} {s : List UInt8} {p : Int} {i : Nat} (h : findC l s = some i) (hp : perOk p = true) (hk : p < perAt l i) : longC l s p = (l, 12) := by unfold longC; rw [h]; simp [hp, hk]
theorem longC_yes {l : List Cl} {s : List UInt8} {p : Int} {i : Nat} (h : findC l s = some i) (hp : perOk p = true) (hk : ¬ p < perAt l i) : longC l s p = (putAt l i p, 0) := by unfold longC; rw [h]; simp [hp, hk]
theorem checkC_ok {c : Cl} : checkC 10 2 c = 0 ↔ c.ok = true := checkC_zero (by decide) (by decide)
theorem addC_ok {l : List Cl} (h : SetOk l) (c : Cl) : SetOk (addC l c).1 := by
  unfold addC
  split
  · exact h
  · rename_i h0
    split
    · exact h
    · rename_i h1
      split
      · exact h
      · refine h.snoc (by omega) (checkC_ok.1 (by simpa using h0)) (findC_none (by simpa using h1))
theorem longC_ok {l : List Cl} (h : SetOk l) (s : List UInt8) (p : Int) : SetOk (longC l s p).1 := by
  unfold longC
  split
  · exact h
  · split
    · exact h
    · rename_i hp
      split
      · exact h
      · exact h.put (by simpa using hp)
theorem addC_stays (l : List Cl) (c : Cl) : Stays15 l (addC l c).1 := by
  unfold addC
  split
  · exact Stays15.refl l
  · split
    · exact Stays15.refl l
    · split
      · exact Stays15.refl l
      · exact Stays15.snoc l c
theorem longC_stays (l : List Cl) (s : List UInt8) (p : Int) : Stays15 l (longC l s p).1 := by
  unfold longC
  split
  · exact Stays15.refl l
  · rename_i i hi
    split
    · exact Stays15.refl l
    · split
      · exact Stays15.refl l
      · rename_i hk
        obtain ⟨c, hc, _⟩ := findC_some hi
        rw [perAt_of hc] at hk
        exact Stays15.put hc (by omega)
theorem addC_len (l : List Cl) (c : Cl) (h : l.length ≤ 8) : (addC l c).1.length ≤ 8 := by
  unfold addC
  repeat' split
  · exact h
  · exact h
  · exact h
  · rw [List.length_append]; simp; omega

/-! ### Acts -/
structure Act15 where
  kind : Int
  c : Cl
def stepC (l : List Cl) (a : Act15) : List Cl × Int := if a.kind = 1 then longC l a.c.name a.c.period else addC l a.c
theorem stepC_long {l : List Cl} {a : Act15} (h : a.kind = 1) : stepC l a = longC l a.c.name a.c.period := if_pos h
theorem stepC_add {l : List Cl} {a : Act15} (h : ¬ a.kind = 1) : stepC l a = addC l a.c := if_neg h
def madeC (l : List Cl) (ax : List Act15) : List Cl := ax.foldl (fun l a => (stepC l a).1) l
theorem madeC_nil (l : List Cl) : madeC l [] = l := rfl
theorem madeC_take {l : List Cl} {ax : List Act15} {k : Nat} {a : Act15} (h : ax[k]? = some a) : madeC l (ax.take (k + 1)) = (stepC (madeC l (ax.take k)) a).1 := by
  rw [List.take_add_one, h]
  simp [madeC]
theorem stepC_ok {l : List Cl} (h : SetOk l) (a : Act15) : SetOk (stepC l a).1 := by
  unfold stepC
  split
  · exact longC_ok h _ _
  · exact addC_ok h _
theorem stepC_stays (l : List Cl) (a : Act15) : Stays15 l (stepC l a).1 := by
  unfold stepC
  split
  · exact longC_stays _ _ _
  · exact addC_stays _ _
theorem madeC_ok {l : List Cl} (h : SetOk l) (ax : List Act15) : SetOk (madeC l ax) := by
  induction ax generalizing l with
  | nil => exact h
  | cons a ax ih => exact ih (stepC_ok h a)
theorem madeC_stays (l : List Cl) (ax : List Act15) : Stays15 l (madeC l ax) := by
  induction ax generalizing l with
  | nil => exact Stays15.refl l
  | cons a ax ih => exact (stepC_stays l a).trans (ih _)

/-! ### Cells -/
def clv (c : Cl) : List Value := [.string ⟨c.name.toArray⟩, .int .i64 c.period, .bool c.event, .bool c.priv]
def Cl.val (c : Cl) : Value := .agg (clv c).toArray
theorem clv_length (c : Cl) : (clv c).length = 4 := rfl
theorem clv_one (c : Cl) : ∀ u ∈ clv c, u.oneCell' = true := by
  intro u hu
  simp only [clv, List.mem_cons, List.not_mem_nil, or_false] at hu
  rcases hu with rfl | rfl | rfl | rfl <;> rfl
def clsV (l : List Cl) : List Value := l.flatMap clv
theorem clsV_length (l : List Cl) : (clsV l).length = l.length * 4 := flat_length clv_length l
theorem clsV_one (l : List Cl) : ∀ u ∈ clsV l, u.oneCell' = true := by
  intro u hu
  obtain ⟨c, _, h⟩ := List.mem_flatMap.1 hu
  exact clv_one c u h
theorem clsV_snoc (l : List Cl) (c : Cl) : clsV (l ++ [c]) = clsV l ++ clv c := by simp [clsV]
theorem clsV_nil : clsV [] = [] := rfl
theorem clsV_put {l : List Cl} {i : Nat} {c : Cl} {p : Int} (h : l[i]? = some c) : (clsV l).set (i * 4 + 1) (.int .i64 p) = clsV (putAt l i p) := by
  have hi := (List.getElem?_eq_some_iff.1 h).1
  apply List.ext_getElem?
  intro j
  rw [List.getElem?_set]
  by_cases hj : j < l.length * 4
  · obtain ⟨d, hd⟩ : ∃ d, l[j / 4]? = some d := ⟨_, List.getElem?_eq_getElem (by omega)⟩
    have e1 : (clsV l)[j]? = (clv d)[j % 4]? := by
      have := flat_get (f := clv) clv_length hd (j % 4) (by omega)
      rw [show j / 4 * 4 + j % 4 = j by omega] at this
      exact this
    have e2 : (clsV (putAt l i p))[j]? = (clv (if i = j / 4 then { d with period := p } else d))[j % 4]? := by
      have hd' : (putAt l i p)[j / 4]? = some (if i = j / 4 then { d with period := p } else d) := by
        rw [putAt_get, hd]
        split <;> rfl
      have := flat_get (f := clv) clv_length hd' (j % 4) (by omega)
      rw [show j / 4 * 4 + j % 4 = j by omega] at this
      exact this
    rw [e1, e2]
    by_cases hij : i * 4 + 1 = j
    · rw [if_pos hij, if_pos (by rw [clsV_length]; omega), if_pos (by omega), show j % 4 = 1 by omega]
      rfl
    · rw [if_neg hij]
      by_cases h2 : i = j / 4
      · rw [if_pos h2]
        have h3 : j % 4 = 0 ∨ j % 4 = 2 ∨ j % 4 = 3 := by omega
        rcases h3 with h3 | h3 | h3 <;> rw [h3] <;> rfl
      · rw [if_neg h2]
  · rw [if_neg (by omega), List.getElem?_eq_none (by rw [clsV_length]; omega), List.getElem?_eq_none (by rw [clsV_length, putAt_length]; omega)]
end Go.Proofs.Ytmcnhcbibcjgnaa
namespace Go.Proofs.Ytmcnhcbibcjgnaa
open Go.RowKit
set_option linter.unusedVariables false

theorem made_list (z : Array Value) (hz : 0 < z.size) (n : Nat) : (madeCells z (n * z.size)).toList = (List.replicate n z.toList).flatten := by
  induction n with
  | zero => simp [madeCells]
  | succ n ih =>
    rw [List.replicate_succ', List.flatten_append, ← ih, Nat.succ_mul]
    apply List.ext_getElem?
    intro j
    rw [List.getElem?_append]
    have hlen : (madeCells z (n * z.size)).toList.length = n * z.size := by simp [size_madeCells]
    rw [hlen]
    split
    · rename_i h
      simp [madeCells, h, show j < n * z.size + z.size by omega]
    · rename_i h
      by_cases hj : j < n * z.size + z.size
      · have hm : j % z.size = j - n * z.size := by
          obtain ⟨k, rfl⟩ : ∃ k, j = n * z.size + k := ⟨j - n * z.size, by omega⟩
          rw [Nat.add_sub_cancel_left, Nat.mul_add_mod', Nat.mod_eq_of_lt (by omega)]
        have hk : j - n * z.size < z.size := by omega
        simp [madeCells, hj, hm, hk]
      · simp [madeCells, hj]
        omega
theorem row_of_full {w : World} {base : Nat} {e : TypeId} {size g n : Nat} {xs : List Value} (h : w.ownsRow base e size (.slice (some ⟨g, 0, none⟩) n n) n xs) : RowV w g e xs := by
  rcases h.2 with ⟨h0, _⟩ | ⟨g', cap, cur, hv, _, hg, _, _, hs, ht⟩
  · cases h0
  · simp only [Value.slice.injEq, Option.some.injEq, Addr.mk.injEq, and_true, true_and] at hv
    obtain ⟨rfl, rfl⟩ := hv
    unfold RowV
    rw [hg, ← ht, List.take_of_length_le (by rw [Array.length_toList, hs]; exact Nat.le_refl _)]
theorem own_of_row {w : World} {e : TypeId} {size g n : Nat} {xs : List Value} (h : RowV w g e xs) (hn : xs.length = n * size) (hm : n ≤ maxLen) : w.ownsRow 0 e size (.slice (some ⟨g, 0, none⟩) n n) n xs :=
  ⟨hn, .inr ⟨g, n, xs.toArray, rfl, Nat.zero_le _, h, Nat.le_refl _, hm, by simpa using hn, by rw [← hn]; simp⟩⟩
/-- Some cells of a row written. -/
theorem row_put {w : World} {e : TypeId} {g : Nat} {xs : List Value} (h : RowV w g e xs) (hm : xs.length ≤ maxLen) (news : List Value) (o : Nat) (ho : o + news.length ≤ xs.length) : RowV (w.setCells g o news) g e (putL xs o news) ∧ w.grownBy (w.setCells g o news) (some g) := by
  have := own_put news o w xs (own_of_row (size := 1) (n := xs.length) h (by simp) hm) (by simpa using ho)
  exact ⟨row_of_full this.1, this.2⟩
theorem row_there {w : World} {e : TypeId} {g : Nat} {xs : List Value} (h : RowV w g e xs) (hm : xs.length ≤ maxLen) (o m : Nat) (ho : o + m ≤ xs.length) : w.there g o m :=
  own_there (own_of_row (size := 1) (n := xs.length) h (by simp) hm) o m (by simpa using ho)
end Go.Proofs.Ytmcnhcbibcjgnaa
