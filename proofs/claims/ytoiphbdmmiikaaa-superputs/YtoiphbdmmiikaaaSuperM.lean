/-
  Layer 8, naming no program: superblocks as bytes ('secS', 'getS'), which of two is chosen, and what a mount leaves of a disk, wherever the power goes.
-/
import Derived.Test.YtoiphbdmmiikaaaDiskM
import Derived.Test.YtoiphbdmmiikaaaCrcE
namespace Go.Proofs.Ytoiphbdmmiikaaa
set_option linter.unusedVariables false

/-- A superblock: a plan and the number of mounts. -/
structure Sb where
  s : Int
  t : Int
  c : Int
  a : Int
  m : Int
  deriving DecidableEq
namespace Sb
def ok (x : Sb) : Bool := decide (1 ≤ x.s) && decide (x.s ≤ 200) && decide (1 ≤ x.t) && decide (x.t ≤ 40) && decide (1 ≤ x.c) && decide (x.c ≤ 40) && decide (1 ≤ x.a) && decide (x.a ≤ 80) && decide (0 ≤ x.m) && decide (x.m ≤ 1099511627776)
theorem ok_iff {x : Sb} : x.ok = true ↔ (1 ≤ x.s ∧ x.s ≤ 200) ∧ (1 ≤ x.t ∧ x.t ≤ 40) ∧ (1 ≤ x.c ∧ x.c ≤ 40) ∧ (1 ≤ x.a ∧ x.a ≤ 80) ∧ 0 ≤ x.m ∧ x.m ≤ 1099511627776 := by
  simp [ok, and_assoc]
def magic : List UInt8 := [77, 79, 82, 84, 77, 65, 73, 78]
/-- The twenty-four bytes. -/
def body (x : Sb) : List UInt8 := magic ++ putB x.s.toNat 2 ++ putB x.t.toNat 2 ++ putB x.c.toNat 2 ++ putB x.a.toNat 2 ++ putB x.m.toNat 8
theorem body_length (x : Sb) : x.body.length = 24 := by simp [body, putB_length, magic]
/-- Its bytes with noughts behind them. -/
def plain (x : Sb) : List UInt8 := x.body ++ List.replicate 228 0
theorem plain_length (x : Sb) : x.plain.length = 252 := by rw [plain, List.length_append, body_length, List.length_replicate]
def sec (x : Sb) : Sec := ⟨sealB x.plain, by rw [sealB_length, plain_length]⟩
end Sb
/-- The number of k bytes from i on. -/
def numAt (l : List UInt8) (i k : Nat) : Nat := leN ((l.drop i).take k)
/-- What stands in a sector, if anything does. -/
def candS (x : Sec) : Sb := ⟨(numAt x.1 8 2 : Nat), (numAt x.1 10 2 : Nat), (numAt x.1 12 2 : Nat), (numAt x.1 14 2 : Nat), (numAt x.1 16 8 : Nat)⟩
def getS (x : Sec) : Option Sb := if (candS x).ok = true ∧ (candS x).sec = x then some (candS x) else none

theorem numAt_mid (a b c : List UInt8) {i k : Nat} (hi : a.length = i) (hk : b.length = k) : numAt (a ++ b ++ c) i k = leN b := by
  subst hi hk
  rw [numAt, List.append_assoc, List.drop_append_of_le_length (Nat.le_refl _), List.drop_length, List.nil_append, List.take_append_of_le_length (Nat.le_refl _), List.take_length]
theorem candS_sec {b : Sb} (h : b.ok = true) : candS b.sec = b := by
  obtain ⟨⟨s1, s2⟩, ⟨t1, t2⟩, ⟨c1, c2⟩, ⟨a1, a2⟩, m1, m2⟩ := Sb.ok_iff.1 h
  have e : b.sec.1 = Sb.magic ++ putB b.s.toNat 2 ++ putB b.t.toNat 2 ++ putB b.c.toNat 2 ++ putB b.a.toNat 2 ++ putB b.m.toNat 8 ++ (List.replicate 228 0 ++ four (crcOf b.plain)) := by
    show sealB b.plain = _
    simp only [sealB, Sb.plain, Sb.body, List.append_assoc]
  have l0 : Sb.magic.length = 8 := rfl
  have q1 : numAt b.sec.1 8 2 = b.s.toNat := by
    rw [e, show Sb.magic ++ putB b.s.toNat 2 ++ putB b.t.toNat 2 ++ putB b.c.toNat 2 ++ putB b.a.toNat 2 ++ putB b.m.toNat 8 ++ (List.replicate 228 0 ++ four (crcOf b.plain)) = Sb.magic ++ putB b.s.toNat 2 ++ (putB b.t.toNat 2 ++ putB b.c.toNat 2 ++ putB b.a.toNat 2 ++ putB b.m.toNat 8 ++ (List.replicate 228 0 ++ four (crcOf b.plain))) by simp only [List.append_assoc],
      numAt_mid _ _ _ l0 (putB_length _ _), leN_putB]
    omega
  have q2 : numAt b.sec.1 10 2 = b.t.toNat := by
    rw [e, show Sb.magic ++ putB b.s.toNat 2 ++ putB b.t.toNat 2 ++ putB b.c.toNat 2 ++ putB b.a.toNat 2 ++ putB b.m.toNat 8 ++ (List.replicate 228 0 ++ four (crcOf b.plain)) = (Sb.magic ++ putB b.s.toNat 2) ++ putB b.t.toNat 2 ++ (putB b.c.toNat 2 ++ putB b.a.toNat 2 ++ putB b.m.toNat 8 ++ (List.replicate 228 0 ++ four (crcOf b.plain))) by simp only [List.append_assoc],
      numAt_mid _ _ _ (by simp [putB_length, l0]) (putB_length _ _), leN_putB]
    omega
  have q3 : numAt b.sec.1 12 2 = b.c.toNat := by
    rw [e, show Sb.magic ++ putB b.s.toNat 2 ++ putB b.t.toNat 2 ++ putB b.c.toNat 2 ++ putB b.a.toNat 2 ++ putB b.m.toNat 8 ++ (List.replicate 228 0 ++ four (crcOf b.plain)) = (Sb.magic ++ putB b.s.toNat 2 ++ putB b.t.toNat 2) ++ putB b.c.toNat 2 ++ (putB b.a.toNat 2 ++ putB b.m.toNat 8 ++ (List.replicate 228 0 ++ four (crcOf b.plain))) by simp only [List.append_assoc],
      numAt_mid _ _ _ (by simp [putB_length, l0]) (putB_length _ _), leN_putB]
    omega
  have q4 : numAt b.sec.1 14 2 = b.a.toNat := by
    rw [e, show Sb.magic ++ putB b.s.toNat 2 ++ putB b.t.toNat 2 ++ putB b.c.toNat 2 ++ putB b.a.toNat 2 ++ putB b.m.toNat 8 ++ (List.replicate 228 0 ++ four (crcOf b.plain)) = (Sb.magic ++ putB b.s.toNat 2 ++ putB b.t.toNat 2 ++ putB b.c.toNat 2) ++ putB b.a.toNat 2 ++ (putB b.m.toNat 8 ++ (List.replicate 228 0 ++ four (crcOf b.plain))) by simp only [List.append_assoc],
      numAt_mid _ _ _ (by simp [putB_length, l0]) (putB_length _ _), leN_putB]
    omega
  have q5 : numAt b.sec.1 16 8 = b.m.toNat := by
    rw [e, numAt_mid _ _ _ (by simp [putB_length, l0]) (putB_length _ _), leN_putB]
    omega
  rw [candS, q1, q2, q3, q4, q5, Int.toNat_of_nonneg (by omega), Int.toNat_of_nonneg (by omega), Int.toNat_of_nonneg (by omega), Int.toNat_of_nonneg (by omega), Int.toNat_of_nonneg m1]
theorem getS_sec {b : Sb} (h : b.ok = true) : getS b.sec = some b := by
  rw [getS, candS_sec h, if_pos ⟨h, rfl⟩]
theorem getS_some {x : Sec} {b : Sb} (h : getS x = some b) : b.ok = true ∧ b.sec = x := by
  unfold getS at h
  split at h
  · rename_i hc
    injection h with h
    subst h
    exact hc
  · cases h
theorem getS_iff {x : Sec} {b : Sb} : getS x = some b ↔ b.ok = true ∧ b.sec = x := ⟨getS_some, fun ⟨h, e⟩ => by rw [← e]; exact getS_sec h⟩
/-- A sector that does not hold its sum is none. -/
theorem getS_none {x : Sec} (h : holdsB x.1 = false) : getS x = none := by
  cases hg : getS x with
  | none => rfl
  | some b =>
    obtain ⟨_, e⟩ := getS_some hg
    rw [← e] at h
    have := holdsB_seal b.plain
    rw [show b.sec.1 = sealB b.plain from rfl, this] at h
    cases h
theorem getS_turned {b : Sb} {N M : Nat} (h : N + 32 ≤ 2048) (hM : M < 2 ^ 32) (h0 : M ≠ 0) (x : Sec) (hx : x.1 = turnK b.sec.1 N M 32) : getS x = none := by
  refine getS_none ?_
  rw [hx]
  exact turned_told (holdsB_seal b.plain) (by rw [b.sec.2]; omega) hM h0

/-- Which of two sectors is chosen: the superblock, its number. -/
def chooseS (x y : Sec) : Option (Sb × Nat) :=
  match getS x, getS y with
  | some a, some b => if b.m ≤ a.m then some (a, 0) else some (b, 1)
  | some a, none => some (a, 0)
  | none, some b => some (b, 1)
  | none, none => none
theorem chooseS_some {x y : Sec} {b : Sb} {k : Nat} (h : chooseS x y = some (b, k)) : b.ok = true ∧ ((k = 0 ∧ getS x = some b) ∨ (k = 1 ∧ getS y = some b)) := by
  unfold chooseS at h
  split at h
  · rename_i a b' ha hb
    split at h
    · injection h with h; injection h with h1 h2; subst h1 h2; exact ⟨(getS_some ha).1, .inl ⟨rfl, ha⟩⟩
    · injection h with h; injection h with h1 h2; subst h1 h2; exact ⟨(getS_some hb).1, .inr ⟨rfl, hb⟩⟩
  · rename_i a ha hb
    injection h with h; injection h with h1 h2; subst h1 h2; exact ⟨(getS_some ha).1, .inl ⟨rfl, ha⟩⟩
  · rename_i b' ha hb
    injection h with h; injection h with h1 h2; subst h1 h2; exact ⟨(getS_some hb).1, .inr ⟨rfl, hb⟩⟩
  · cases h
/-- The other sector, with one mount more, is chosen. -/
theorem choose_next {x y : Sec} {b b' : Sb} {k : Nat} (h : chooseS x y = some (b, k)) (hok : b'.ok = true) (hm : b'.m = b.m + 1) :
    (k = 0 ∧ chooseS x b'.sec = some (b', 1)) ∨ (k = 1 ∧ chooseS b'.sec y = some (b', 0)) := by
  obtain ⟨hb, ⟨rfl, hx⟩ | ⟨rfl, hy⟩⟩ := chooseS_some h
  · refine .inl ⟨rfl, ?_⟩
    unfold chooseS
    rw [hx, getS_sec hok]
    exact if_neg (by omega)
  · refine .inr ⟨rfl, ?_⟩
    unfold chooseS
    rw [hy, getS_sec hok]
    exact if_pos (by omega)

/-! ### A disk with two superblocks -/
def Dk.readS (d : Dk) : Option (Sb × Nat) := chooseS (d.dur.getD 0 zeroSec) (d.dur.getD 1 zeroSec)
/-- The disk is up, nothing waits, the superblock b is the chosen one, in sector k. -/
structure SupAt (d : Dk) (b : Sb) (k : Nat) : Prop where
  up : d.down = false
  fuse : d.fuse = none
  wait : d.wait = []
  len : d.dur.length = 9
  read : chooseS (d.dur.getD 0 zeroSec) (d.dur.getD 1 zeroSec) = some (b, k)
def Sb.next (b : Sb) : Sb := { b with m := b.m + 1 }
/-- What a mount makes of a disk that tells b in sector k: the disk, and whether all went well. -/
def Dk.bumped (d : Dk) (b : Sb) (k : Nat) : Dk × Bool :=
  let r := d.write ((1 - k : Nat) : Int) b.next.sec
  if r.2 = 0 then let q := r.1.flush; (q.1, decide (q.2 = 0)) else (r.1, false)
theorem getD_set_at {l : List Sec} {i j : Nat} (hi : i < l.length) (s : Sec) : (l.set i s).getD j zeroSec = if i = j then s else l.getD j zeroSec := by
  rw [List.getD_eq_getElem?_getD, List.getD_eq_getElem?_getD, List.getElem?_set]
  by_cases e : i = j
  · subst e; rw [if_pos rfl, if_pos rfl, if_pos hi]; rfl
  · rw [if_neg e, if_neg e]
/-- The sector of the next superblock written: it is told. -/
theorem SupAt.wrote {d : Dk} {b : Sb} {k : Nat} (h : SupAt d b k) (hok : b.next.ok = true) (e : Dk) (hd : e.dur = d.dur.set (1 - k) b.next.sec) (h1 : e.down = false) (h2 : e.fuse = none) (h3 : e.wait = []) : SupAt e b.next (1 - k) := by
  refine ⟨h1, h2, h3, by rw [hd, List.length_set]; exact h.len, ?_⟩
  rw [hd]
  have hl := h.len
  rcases choose_next h.read hok rfl with ⟨rfl, hc⟩ | ⟨rfl, hc⟩
  · rw [getD_set_at (by omega), getD_set_at (by omega), if_neg (by omega), if_pos rfl]; exact hc
  · rw [getD_set_at (by omega), getD_set_at (by omega), if_pos rfl, if_neg (by omega)]; exact hc
theorem SupAt.same {d : Dk} {b : Sb} {k : Nat} (h : SupAt d b k) (e : Dk) (hd : e.dur = d.dur) (h1 : e.down = false) (h2 : e.fuse = none) (h3 : e.wait = []) : SupAt e b k :=
  ⟨h1, h2, h3, by rw [hd]; exact h.len, by rw [hd]; exact h.read⟩
/-- A mount with any fuse, and a crash behind it: one of the two is told. -/
theorem SupAt.crashed {d : Dk} {b : Sb} {k : Nat} (h : SupAt d b k) (hok : b.next.ok = true) (f : Nat) (keep : Bool) :
    let r := (d.setFuse (f : Int)).bumped b k
    let e := (r.1.crash [keep]).1
    (r.2 = true ∧ SupAt e b.next (1 - k)) ∨ (r.2 = false ∧ (SupAt e b k ∨ SupAt e b.next (1 - k))) := by
  obtain ⟨dur, wait, steps, fuse, down⟩ := d
  have hw : wait = [] := h.wait
  have hu : down = false := h.up
  have hl : dur.length = 9 := h.len
  have hk : k = 0 ∨ k = 1 := by
    rcases (chooseS_some h.read).2 with ⟨e, _⟩ | ⟨e, _⟩ <;> omega
  subst hw hu
  have hhas : ∀ fz, (Dk.mk dur [] steps fz false).has ((1 - k : Nat) : Int) = true := by
    intro fz
    simp [Dk.has, hl]
    omega
  have htn : ((1 - k : Nat) : Int).toNat = 1 - k := by omega
  have hsf : Dk.setFuse ⟨dur, [], steps, fuse, false⟩ (f : Int) = ⟨dur, [], steps, some f, false⟩ := by
    rw [Dk.setFuse, if_neg (by omega)]
    rfl
  rw [hsf]
  clear hsf
  rcases f with _ | _ | f
  · refine .inr ⟨?_, .inl ?_⟩
    · simp [Dk.bumped, Dk.write, hhas, Dk.dead]
    · refine h.same _ ?_ ?_ ?_ ?_ <;> simp [Dk.bumped, Dk.write, hhas, Dk.dead, Dk.stepped, Dk.crash, Dk.kept, Dk.settle]
  · refine .inr ⟨?_, ?_⟩
    · simp [Dk.bumped, Dk.write, hhas, Dk.dead, Dk.stepped, Dk.flush]
    · cases keep
      · refine .inl (h.same _ ?_ ?_ ?_ ?_) <;> simp [Dk.bumped, Dk.write, hhas, Dk.dead, Dk.stepped, Dk.flush, Dk.crash, Dk.kept, Dk.settle]
      · refine .inr (h.wrote hok _ ?_ ?_ ?_ ?_) <;> simp [Dk.bumped, Dk.write, hhas, Dk.dead, Dk.stepped, Dk.flush, Dk.crash, Dk.kept, Dk.settle, htn]
  · refine .inl ⟨?_, h.wrote hok _ ?_ ?_ ?_ ?_⟩ <;> simp [Dk.bumped, Dk.write, hhas, Dk.dead, Dk.stepped, Dk.flush, Dk.crash, Dk.kept, Dk.settle, htn]
end Go.Proofs.Ytoiphbdmmiikaaa
