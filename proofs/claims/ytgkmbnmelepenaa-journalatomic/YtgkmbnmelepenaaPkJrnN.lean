/-
  Layer 9, naming no program: changes of any sector numbers, heads and what they name; the writes of a Commit and of a Recover on a disk as it is told ('Dk'); what is left of them wherever the power goes.
  Layer 9, naming no program: wherever the power goes in a Commit or a Recover, and whichever writes are kept, the sectors are as they were, or the changes stand in the journal, or all of them are done.
-/
import Derived.Test.YtgkmbnmelepenaaPkMadeV
import Derived.Test.YtgkmbnmelepenaaPkSecG
import Derived.Test.YtgkmbnmelepenaaPkDiskIm
namespace Go.Proofs.Ytgkmbnmelepenaa
set_option linter.unusedVariables false

/-! ### Changes -/
/-- A change of a sector of any number. -/
abbrev ChI := Int × Sec
def ChI.cs (c : ChI) : List Value := .int .i64 c.1 :: c.2.cs
theorem ChI.cs_length (c : ChI) : c.cs.length = 257 := by rw [ChI.cs, List.length_cons, Sec.cs_length]
theorem ChI.one (c : ChI) : ∀ u ∈ c.cs, u.oneCell' = true := by
  intro u hu
  rcases List.mem_cons.1 hu with rfl | h
  · rfl
  · exact Sec.one _ u h
def chis (l : List ChI) : List Value := l.flatMap ChI.cs
theorem chis_length (l : List ChI) : (chis l).length = l.length * 257 := flat_length ChI.cs_length l
theorem chis_one (l : List ChI) : ∀ u ∈ chis l, u.oneCell' = true := by
  intro u hu
  obtain ⟨s, _, h⟩ := List.mem_flatMap.1 hu
  exact ChI.one s u h
theorem chis_append (l m : List ChI) : chis (l ++ m) = chis l ++ chis m := List.flatMap_append
theorem chis_snoc (l : List ChI) (c : ChI) : chis (l ++ [c]) = chis l ++ c.cs := by rw [chis_append]; simp [chis]
theorem chis_get {l : List ChI} {i : Nat} {c : ChI} (h : l[i]? = some c) (j : Nat) (hj : j < 257) : (chis l)[i * 257 + j]? = c.cs[j]? := flat_get ChI.cs_length h j hj
theorem chis_put {l : List ChI} {i : Nat} (hi : i < l.length) (c : ChI) : putL (chis l) (i * 257) c.cs = chis (l.set i c) := flat_put ChI.cs_length hi c
/-- As a write. -/
def ChI.nat (c : ChI) : Chg := (c.1.toNat, c.2)

/-! ### Heads -/
/-- The low 64 bits. -/
def u64N (x : Int) : Nat := (x % 18446744073709551616).toNat
theorem u64N_lt (x : Int) : u64N x < 18446744073709551616 := by unfold u64N; omega
def mark4 : List UInt8 := [74, 79, 85, 82]
def atsB (l : List Int) : List UInt8 := l.flatMap fun x => putB (u64N x) 2
theorem atsB_length (l : List Int) : (atsB l).length = 2 * l.length := by
  induction l with
  | nil => rfl
  | cons a l ih => rw [atsB, List.flatMap_cons, List.length_append, putB_length, List.length_cons]; have := ih; unfold atsB at this; omega
theorem atsB_snoc (l : List Int) (x : Int) : atsB (l ++ [x]) = atsB l ++ putB (u64N x) 2 := by simp [atsB]
def headB (l : List Int) : List UInt8 := mark4 ++ [UInt8.ofNat l.length] ++ atsB l
theorem headB_length (l : List Int) : (headB l).length = 5 + 2 * l.length := by simp [headB, mark4, atsB_length]; omega
theorem headB_short {l : List Int} (h : l.length ≤ 123) : (headB l).length ≤ 252 := by rw [headB_length]; omega
/-- The head of changes of these sectors. -/
def headS (l : List Int) : Sec := if h : l.length ≤ 123 then sealS (headB l) (headB_short h) else zeroSec
theorem headS_eq {l : List Int} (h : l.length ≤ 123) : headS l = sealS (headB l) (headB_short h) := by unfold headS; rw [dif_pos h]
def numsAt (x : List UInt8) (o n : Nat) : List Int := (List.range n).map fun i => ((numAt x (o + 2 * i) 2 : Nat) : Int)
theorem numsAt_length (x : List UInt8) (o n : Nat) : (numsAt x o n).length = n := by simp [numsAt]
def cnt (x : Sec) : Nat := (x.1.getD 4 0).toNat
/-- The sectors of which a sector is the head. -/
def targetsS (x : Sec) : Option (List Int) := if 1 ≤ cnt x ∧ cnt x ≤ 123 ∧ headS (numsAt x.1 5 (cnt x)) = x then some (numsAt x.1 5 (cnt x)) else none
theorem cnt_lt (x : Sec) : cnt x < 256 := UInt8.toNat_lt _
theorem targets_zero : targetsS zeroSec = none := by
  unfold targetsS
  rw [if_neg]
  rintro ⟨h, _⟩
  have : cnt zeroSec = 0 := by decide
  omega
theorem headS_bytes {l : List Int} (h : l.length ≤ 123) : ∃ r, (headS l).1 = mark4 ++ [UInt8.ofNat l.length] ++ (atsB l ++ r) := by
  rw [headS_eq h]
  refine ⟨List.replicate (252 - (headB l).length) 0 ++ four (crcOf (fill (headB l) 252)), ?_⟩
  show sealB (fill (headB l) 252) = _
  rw [sealB]
  generalize four (crcOf (fill (headB l) 252)) = q
  unfold fill headB
  simp only [List.append_assoc]
theorem numAt_drop (a b : List UInt8) (i k : Nat) : numAt (a ++ b) (a.length + i) k = numAt b i k := by
  unfold numAt
  rw [List.drop_append, List.drop_eq_nil_of_le (by omega), List.nil_append, Nat.add_sub_cancel_left]
theorem atsB_num : ∀ (l : List Int) (r : List UInt8), (∀ x ∈ l, 0 ≤ x ∧ x < 65536) → ∀ i x, l[i]? = some x → ((numAt (atsB l ++ r) (2 * i) 2 : Nat) : Int) = x
  | [], r, _, i, x, hi => by simp at hi
  | a :: l, r, h, 0, x, hi => by
    simp at hi
    subst hi
    have ha := h a (by simp)
    have e : atsB (a :: l) ++ r = [] ++ putB (u64N a) 2 ++ (atsB l ++ r) := by simp [atsB]
    rw [Nat.mul_zero, e, numAt_mid [] (putB (u64N a) 2) _ (i := 0) rfl (putB_length _ _), leN_putB]
    unfold u64N
    omega
  | a :: l, r, h, i + 1, x, hi => by
    have e : atsB (a :: l) ++ r = putB (u64N a) 2 ++ (atsB l ++ r) := by simp [atsB]
    rw [e, show 2 * (i + 1) = (putB (u64N a) 2).length + 2 * i by rw [putB_length]; omega, numAt_drop]
    exact atsB_num l r (fun x hx => h x (by simp [hx])) i x (by simpa using hi)
theorem cnt_head {l : List Int} (h : l.length ≤ 123) : cnt (headS l) = l.length := by
  obtain ⟨r, e⟩ := headS_bytes h
  unfold cnt
  rw [e]
  simp [mark4]
  omega
theorem targets_head {l : List Int} (h0 : 1 ≤ l.length) (h : l.length ≤ 123) (hl : ∀ x ∈ l, 0 ≤ x ∧ x < 65536) : targetsS (headS l) = some l := by
  have e2 : numsAt (headS l).1 5 l.length = l := by
    obtain ⟨r, e⟩ := headS_bytes h
    rw [e]
    apply List.ext_getElem?
    intro i
    unfold numsAt
    rw [List.getElem?_map]
    by_cases hi : i < l.length
    · rw [List.getElem?_range hi, List.getElem?_eq_getElem hi]
      simp only [Option.map_some]
      rw [show 5 + 2 * i = (mark4 ++ [UInt8.ofNat l.length]).length + 2 * i by simp [mark4], numAt_drop, atsB_num l r hl i _ (List.getElem?_eq_getElem hi)]
    · rw [List.getElem?_eq_none (l := List.range l.length) (by rw [List.length_range]; omega), List.getElem?_eq_none (by omega)]
      rfl
  unfold targetsS
  rw [cnt_head h, e2, if_pos ⟨h0, h, rfl⟩]

/-! ### A journal -/
/-- Where a journal lies: its head, its body, how many sectors there are. -/
structure Jl where
  head : Nat
  body : Nat
  room : Nat
  total : Nat
structure Jl.Ok (y : Jl) : Prop where
  head : 2 ≤ y.head
  body : y.head < y.body
  total : y.body + y.room ≤ y.total
  room : y.room ≤ 123
  small : y.total ≤ 4096
def checkFrom (y : Jl) (seen : List Int) : List Int → Int
  | [] => 0
  | x :: r => if 2 ≤ x ∧ x < y.head then if x ∈ seen then 9 else checkFrom y (seen ++ [x]) r else 2
def checkL (y : Jl) (l : List Int) : Int := if l.length = 0 then 1 else if y.room < l.length then 7 else checkFrom y [] l
theorem checkFrom_zero {y : Jl} : ∀ {l seen : List Int}, checkFrom y seen l = 0 → ∀ x ∈ l, 2 ≤ x ∧ x < (y.head : Int)
  | [], _, _, x, hx => by simp at hx
  | a :: l, seen, h, x, hx => by
    unfold checkFrom at h
    split at h
    · rename_i ha
      split at h
      · omega
      · rcases List.mem_cons.1 hx with rfl | hx
        · exact ha
        · exact checkFrom_zero h x hx
    · omega
theorem check_zero {y : Jl} {l : List Int} (h : checkL y l = 0) : 1 ≤ l.length ∧ l.length ≤ y.room ∧ ∀ x ∈ l, 2 ≤ x ∧ x < (y.head : Int) := by
  unfold checkL at h
  split at h
  · omega
  · split at h
    · omega
    · exact ⟨by omega, by omega, checkFrom_zero h⟩

namespace Dk
def writeAll : Dk → List ChI → Dk × Int
  | d, [] => (d, 0)
  | d, c :: r => if (d.write c.1 c.2).2 = 0 then writeAll (d.write c.1 c.2).1 r else d.write c.1 c.2
def inOrder : List (Dk → Dk × Int) → Dk → Dk × Int
  | [], d => (d, 0)
  | f :: r, d => if (f d).2 = 0 then inOrder r (f d).1 else ((f d).1, 4)
end Dk
/-- Contents laid one behind the other from sector b on. -/
def bodyL : Nat → List Sec → List ChI
  | _, [] => []
  | b, s :: r => ((b : Int), s) :: bodyL (b + 1) r
def scrubD (y : Jl) : Dk → Dk × Int := Dk.inOrder [fun d => d.writeAll (bodyL y.body (List.replicate y.room zeroSec)), Dk.flush]
def completeD (y : Jl) (l : List ChI) : Dk → Dk × Int := Dk.inOrder [fun d => d.writeAll l, Dk.flush, fun d => d.write y.head zeroSec, Dk.flush, scrubD y]
def commitD (y : Jl) (l : List ChI) : Dk → Dk × Int := Dk.inOrder [fun d => d.writeAll (bodyL y.body (l.map (·.2))), Dk.flush, fun d => d.write y.head (headS (l.map (·.1))), Dk.flush, completeD y l]
def pendFrom (d : Dk) : Nat → List Int → List ChI
  | _, [] => []
  | b, x :: r => (x, Dk.look d.dur d.wait b) :: pendFrom d (b + 1) r
/-- The changes that wait in the journal. -/
def pendL (y : Jl) (d : Dk) : List ChI :=
  match targetsS (Dk.look d.dur d.wait y.head) with
  | none => []
  | some ts => if checkL y ts = 0 then pendFrom d y.body ts else []
def recoverD (y : Jl) (d : Dk) : Dk × Int := completeD y (pendL y d) d
def cleanD (y : Jl) (d : Dk) : Bool := decide (Dk.look d.dur d.wait y.head = zeroSec) && (List.range y.room).all fun i => decide (Dk.look d.dur d.wait (y.body + i) = zeroSec)

/-! ### How many writes and flushes -/
def Ticks (T n : Nat) (f : Dk → Dk × Int) : Prop := ∀ d : Dk, d.down = false → d.dur.length = T →
  (f d).1.dur.length = T ∧ ((∀ k, d.fuse = some k → n ≤ k) → (f d).2 = 0 ∧ (f d).1.down = false ∧ (f d).1.steps = d.steps + n ∧ (f d).1.fuse = d.fuse.map (· - n)) ∧
  (∀ k, d.fuse = some k → k < n → (f d).2 ≠ 0)
theorem Ticks.write {T : Nat} {x : Int} {s : Sec} (h0 : 0 ≤ x) (h1 : x < T) : Ticks T 1 fun d => d.write x s := by
  intro d hd hl
  have hh : d.has x = true := by simp [Dk.has, hl, h0, h1]
  simp only [Dk.write, hh, if_true]
  refine ⟨?_, fun hf => ?_, fun k hk hlt => ?_⟩
  · split
    · show d.stepped.dur.length = _; rw [stepped_dur]; exact hl
    · show d.stepped.dur.length = _; rw [stepped_dur]; exact hl
  · have hdd : d.dead = false := by
      unfold Dk.dead
      rw [hd]
      cases hq : d.fuse with
      | none => rfl
      | some k => have := hf k hq; simp; omega
    rw [hdd]
    simp [Dk.stepped, hdd, hd]
  · have hdd : d.dead = true := by unfold Dk.dead; rw [hd, hk]; simp; omega
    rw [hdd]
    simp
theorem Ticks.flush {T : Nat} : Ticks T 1 Dk.flush := by
  intro d hd hl
  unfold Dk.flush
  refine ⟨?_, fun hf => ?_, fun k hk hlt => ?_⟩
  · split
    · show d.stepped.dur.length = _; rw [stepped_dur]; exact hl
    · show (Dk.settle d.dur d.wait).length = _; rw [settle_length]; exact hl
  · have hdd : d.dead = false := by
      unfold Dk.dead
      rw [hd]
      cases hq : d.fuse with
      | none => rfl
      | some k => have := hf k hq; simp; omega
    rw [hdd]
    simp [Dk.stepped, hdd, hd]
  · have hdd : d.dead = true := by unfold Dk.dead; rw [hd, hk]; simp; omega
    rw [hdd]
    simp
theorem ticks_seq {T n m : Nat} {f g : Dk → Dk × Int} {q : Dk → Int} (hq : ∀ d, (f d).2 ≠ 0 → q d ≠ 0) (hf : Ticks T n f) (hg : Ticks T m g) : Ticks T (n + m) fun d => if (f d).2 = 0 then g (f d).1 else ((f d).1, q d) := by
  intro d hd hl
  obtain ⟨a1, a2, a3⟩ := hf d hd hl
  by_cases h : (f d).2 = 0
  · simp only [if_pos h]
    have hn : ∀ k, d.fuse = some k → n ≤ k := fun k hk => by
      by_cases hc : n ≤ k
      · exact hc
      · exact absurd h (a3 k hk (by omega))
    obtain ⟨b1, b2, b3, b4⟩ := a2 hn
    obtain ⟨c1, c2, c3⟩ := hg (f d).1 b2 a1
    refine ⟨c1, fun hk => ?_, fun k hk hlt => ?_⟩
    · obtain ⟨e1, e2, e3, e4⟩ := c2 (fun k' hk' => by
        rw [b4] at hk'
        obtain ⟨k, e, rfl⟩ := Option.map_eq_some_iff.1 hk'
        have := hk k e
        omega)
      refine ⟨e1, e2, by omega, ?_⟩
      rw [e4, b4, Option.map_map]
      congr 1
      funext k
      show k - n - m = k - (n + m)
      omega
    · have := hn k hk
      exact c3 (k - n) (by rw [b4, hk]; rfl) (by omega)
  · simp only [if_neg h]
    refine ⟨a1, fun hk => ?_, fun k hk hlt => hq d h⟩
    exact absurd (a2 fun k hk' => by have := hk k hk'; omega).1 h
theorem Ticks.nil {T : Nat} {fs : List (Dk → Dk × Int)} (h : fs = []) : Ticks T 0 (Dk.inOrder fs) := by
  subst h
  intro d hd hl
  refine ⟨hl, fun _ => ⟨rfl, hd, rfl, ?_⟩, fun k _ h => by omega⟩
  show d.fuse = _
  cases d.fuse <;> rfl
theorem Ticks.cons {T n m : Nat} {f : Dk → Dk × Int} {r : List (Dk → Dk × Int)} (hf : Ticks T n f) (hr : Ticks T m (Dk.inOrder r)) : Ticks T (n + m) (Dk.inOrder (f :: r)) :=
  ticks_seq (q := fun _ => 4) (fun _ _ => by decide) hf hr
theorem Ticks.writeAll {T : Nat} : ∀ {l : List ChI}, (∀ c ∈ l, 0 ≤ c.1 ∧ c.1 < T) → Ticks T l.length fun d => d.writeAll l
  | [], _ => Ticks.nil (fs := []) rfl
  | c :: r, h => by
    have h1 := h c (by simp)
    have := ticks_seq (q := fun d => (d.write c.1 c.2).2) (fun _ h => h) (Ticks.write (s := c.2) h1.1 h1.2) (Ticks.writeAll (l := r) fun c hc => h c (by simp [hc]))
    rw [Nat.add_comm] at this
    exact this
theorem bodyL_length : ∀ (l : List Sec) (b : Nat), (bodyL b l).length = l.length
  | [], _ => rfl
  | s :: r, b => by rw [bodyL, List.length_cons, bodyL_length r, List.length_cons]
theorem bodyL_mem : ∀ (l : List Sec) (b : Nat), ∀ c ∈ bodyL b l, ∃ k, k < l.length ∧ c.1 = ((b + k : Nat) : Int) ∧ l[k]? = some c.2
  | [], b, c, h => by simp [bodyL] at h
  | s :: r, b, c, h => by
    rw [bodyL] at h
    rcases List.mem_cons.1 h with rfl | h
    · exact ⟨0, by simp, rfl, rfl⟩
    · obtain ⟨k, h1, h2, h3⟩ := bodyL_mem r (b + 1) c h
      exact ⟨k + 1, by simp; omega, by rw [h2]; omega, by simpa using h3⟩
theorem bodyL_range {b n T : Nat} {l : List Sec} (hl : l.length ≤ n) (hT : b + n ≤ T) : ∀ c ∈ bodyL b l, 0 ≤ c.1 ∧ c.1 < (T : Int) := by
  intro c hc
  obtain ⟨k, h1, h2, _⟩ := bodyL_mem l b c hc
  omega
section
variable {y : Jl}
theorem scrub_ticks (hy : y.Ok) : Ticks y.total (y.room + 1) (scrubD y) := by
  have h := Ticks.writeAll (T := y.total) (l := bodyL y.body (List.replicate y.room zeroSec)) (bodyL_range (n := y.room) (by simp) hy.total)
  rw [bodyL_length, List.length_replicate] at h
  exact (h.cons (Ticks.flush.cons (Ticks.nil rfl)))
theorem complete_ticks (hy : y.Ok) {l : List ChI} (hl : ∀ c ∈ l, 0 ≤ c.1 ∧ c.1 < (y.total : Int)) : Ticks y.total (l.length + y.room + 4) (completeD y l) := by
  have hb := hy.body
  have ht := hy.total
  have h := (Ticks.writeAll hl).cons (Ticks.flush.cons ((Ticks.write (T := y.total) (x := (y.head : Int)) (s := zeroSec) (by omega) (by omega)).cons (Ticks.flush.cons ((scrub_ticks hy).cons (Ticks.nil rfl)))))
  rw [show l.length + (1 + (1 + (1 + (y.room + 1 + 0)))) = l.length + y.room + 4 by omega] at h
  exact h
theorem commit_ticks (hy : y.Ok) {l : List ChI} (hr : l.length ≤ y.room) (hl : ∀ c ∈ l, 0 ≤ c.1 ∧ c.1 < (y.total : Int)) : Ticks y.total (2 * l.length + y.room + 7) (commitD y l) := by
  have hb := hy.body
  have ht := hy.total
  have h0 := Ticks.writeAll (T := y.total) (l := bodyL y.body (l.map (·.2))) (bodyL_range (n := y.room) (by simpa using hr) hy.total)
  rw [bodyL_length, List.length_map] at h0
  have h := h0.cons (Ticks.flush.cons ((Ticks.write (T := y.total) (x := (y.head : Int)) (s := headS (l.map (·.1))) (by omega) (by omega)).cons (Ticks.flush.cons ((complete_ticks hy hl).cons (Ticks.nil rfl)))))
  rw [show l.length + (1 + (1 + (1 + (l.length + y.room + 4 + 0)))) = 2 * l.length + y.room + 7 by omega] at h
  exact h
end

/-! ### The numbers stay small -/
structure Fit (T : Nat) (d : Dk) (n : Nat) : Prop where
  ok : d.Ok
  len : d.dur.length = T
  steps : d.steps ≤ n
  wait : d.wait.length ≤ n
theorem Fit.mono {T n m : Nat} {d : Dk} (h : Fit T d n) (hm : n ≤ m) : Fit T d m := ⟨h.ok, h.len, Nat.le_trans h.steps hm, Nat.le_trans h.wait hm⟩
def Keeps (m : Nat) (f : Dk → Dk × Int) : Prop := ∀ T d n, Fit T d n → n + m < 1000000 → Fit T (f d).1 (n + m)
theorem Keeps.write (x : Int) (s : Sec) : Keeps 1 fun d => d.write x s := by
  intro T d n h hn
  obtain ⟨a1, a2, a3, a4⟩ := write_ok (x := x) (s := s) h.ok h.steps h.wait (by omega)
  exact ⟨a1, a4.trans h.len, a2, a3⟩
theorem Keeps.flush : Keeps 1 Dk.flush := by
  intro T d n h hn
  obtain ⟨a1, a2, a3, a4⟩ := flush_ok h.ok h.steps h.wait (by omega)
  exact ⟨a1, a4.trans h.len, a2, a3⟩
theorem Keeps.nil : Keeps 0 (Dk.inOrder []) := fun T d n h _ => h
theorem Keeps.cons {n m : Nat} {f : Dk → Dk × Int} {r : List (Dk → Dk × Int)} (hf : Keeps n f) (hr : Keeps m (Dk.inOrder r)) : Keeps (n + m) (Dk.inOrder (f :: r)) := by
  intro T d k h hk
  unfold Dk.inOrder
  split
  · have := hr T _ _ (hf T d k h (by omega)) (by omega)
    rwa [Nat.add_assoc] at this
  · exact (hf T d k h (by omega)).mono (by omega)
theorem Keeps.writeAll : ∀ (l : List ChI), Keeps l.length fun d => d.writeAll l
  | [] => Keeps.nil
  | c :: r => by
    intro T d k h hk
    rw [List.length_cons] at hk ⊢
    have h1 := Keeps.write c.1 c.2 T d k h (by omega)
    show Fit T (Dk.writeAll d (c :: r)).1 _
    unfold Dk.writeAll
    split
    · have := Keeps.writeAll r T _ _ h1 (by omega)
      rwa [show k + 1 + r.length = k + (r.length + 1) by omega] at this
    · exact h1.mono (by omega)
theorem scrub_keeps (y : Jl) : Keeps (y.room + 1) (scrubD y) := by
  have h := Keeps.writeAll (bodyL y.body (List.replicate y.room zeroSec))
  rw [bodyL_length, List.length_replicate] at h
  exact h.cons (Keeps.flush.cons Keeps.nil)
theorem complete_keeps (y : Jl) (l : List ChI) : Keeps (l.length + y.room + 4) (completeD y l) := by
  have h := (Keeps.writeAll l).cons (Keeps.flush.cons ((Keeps.write (y.head : Int) zeroSec).cons (Keeps.flush.cons ((scrub_keeps y).cons Keeps.nil))))
  rw [show l.length + (1 + (1 + (1 + (y.room + 1 + 0)))) = l.length + y.room + 4 by omega] at h
  exact h
theorem commit_keeps (y : Jl) (l : List ChI) : Keeps (2 * l.length + y.room + 7) (commitD y l) := by
  have h0 := Keeps.writeAll (bodyL y.body (l.map (·.2)))
  rw [bodyL_length, List.length_map] at h0
  have h := h0.cons (Keeps.flush.cons ((Keeps.write (y.head : Int) (headS (l.map (·.1)))).cons (Keeps.flush.cons ((complete_keeps y l).cons Keeps.nil))))
  rw [show l.length + (1 + (1 + (1 + (l.length + y.room + 4 + 0)))) = 2 * l.length + y.room + 7 by omega] at h
  exact h
end Go.Proofs.Ytgkmbnmelepenaa
namespace Go.Proofs.Ytgkmbnmelepenaa
set_option linter.unusedVariables false

/-- The disk is up, with these sectors and these waiting writes. -/
structure Is (l : List Sec) (ws : List Chg) (d : Dk) : Prop where
  up : d.down = false
  dur : d.dur = l
  wait : d.wait = ws
/-- The sectors are these; what waits are the first of these writes. -/
def Left (l : List Sec) (ws : List Chg) (d : Dk) : Prop := d.dur = l ∧ d.wait <+: ws
def Tri (P : Dk → Prop) (f : Dk → Dk × Int) (Q S : Dk → Prop) : Prop := ∀ d, P d → ((f d).2 = 0 ∧ Q (f d).1) ∨ ((f d).2 ≠ 0 ∧ S (f d).1)
theorem Tri.weak {P Q S S' : Dk → Prop} {f : Dk → Dk × Int} (h : Tri P f Q S) (hs : ∀ d, S d → S' d) : Tri P f Q S' := fun d hd => (h d hd).imp id fun ⟨a, b⟩ => ⟨a, hs _ b⟩
theorem Tri.nil {P S : Dk → Prop} : Tri P (Dk.inOrder []) P S := fun d hd => .inl ⟨rfl, hd⟩
theorem Tri.cons {P Q R S : Dk → Prop} {f : Dk → Dk × Int} {r : List (Dk → Dk × Int)} (hf : Tri P f Q S) (hr : Tri Q (Dk.inOrder r) R S) : Tri P (Dk.inOrder (f :: r)) R S := by
  intro d hd
  unfold Dk.inOrder
  rcases hf d hd with ⟨h1, h2⟩ | ⟨h1, h2⟩
  · rw [if_pos h1]
    exact hr _ h2
  · rw [if_neg h1]
    exact .inr ⟨by simp, h2⟩
theorem tri_flush (l : List Sec) (ws : List Chg) : Tri (Is l ws) Dk.flush (Is (Dk.settle l ws) []) (Left l ws) := by
  intro d h
  unfold Dk.flush
  split
  · exact .inr ⟨by simp, by show d.stepped.dur = l; rw [stepped_dur]; exact h.dur, by show d.stepped.wait <+: ws; rw [stepped_wait, h.wait]; exact List.prefix_refl _⟩
  · rename_i hd
    refine .inl ⟨rfl, ?_, by show Dk.settle d.dur d.wait = _; rw [h.dur, h.wait], rfl⟩
    show d.stepped.down = false
    rw [Dk.stepped, if_neg hd]
    exact h.up
theorem tri_write {l : List Sec} (ws : List Chg) {x : Int} {s : Sec} (h0 : 0 ≤ x) (h1 : x < l.length) : Tri (Is l ws) (fun d => d.write x s) (Is l (ws ++ [(x.toNat, s)])) (Left l ws) := by
  intro d h
  have hh : d.has x = true := by simp [Dk.has, h.dur, h0, h1]
  simp only [Dk.write, hh, if_true]
  split
  · exact .inr ⟨by simp, by show d.stepped.dur = l; rw [stepped_dur]; exact h.dur, by show d.stepped.wait <+: ws; rw [stepped_wait, h.wait]; exact List.prefix_refl _⟩
  · rename_i hd
    refine .inl ⟨rfl, ?_, by show d.stepped.dur = l; rw [stepped_dur]; exact h.dur, by show d.wait ++ _ = _; rw [h.wait]⟩
    show d.stepped.down = false
    rw [Dk.stepped, if_neg hd]
    exact h.up
theorem Left.more {l : List Sec} {ws vs : List Chg} {d : Dk} (h : Left l ws d) : Left l (ws ++ vs) d := ⟨h.1, h.2.trans (List.prefix_append _ _)⟩
theorem tri_writeAll {l : List Sec} : ∀ (L : List ChI) (ws : List Chg), (∀ c ∈ L, 0 ≤ c.1 ∧ c.1 < (l.length : Int)) → Tri (Is l ws) (fun d => d.writeAll L) (Is l (ws ++ L.map ChI.nat)) (Left l (ws ++ L.map ChI.nat))
  | [], ws, _ => fun d h => .inl ⟨rfl, by simpa [Dk.writeAll] using h⟩
  | c :: r, ws, h => by
    have hc := h c (by simp)
    have ih := tri_writeAll r (ws ++ [c.nat]) fun c hc => h c (by simp [hc])
    have e : ws ++ [c.nat] ++ r.map ChI.nat = ws ++ (c :: r).map ChI.nat := by simp
    rw [e] at ih
    intro d hd
    have eq : Dk.writeAll d (c :: r) = if (d.write c.1 c.2).2 = 0 then Dk.writeAll (d.write c.1 c.2).1 r else d.write c.1 c.2 := rfl
    rcases tri_write (s := c.2) ws hc.1 hc.2 d hd with ⟨h1, h2⟩ | ⟨h1, h2⟩
    · have e3 : Dk.writeAll d (c :: r) = Dk.writeAll (d.write c.1 c.2).1 r := by rw [eq]; exact if_pos h1
      simp only [e3]
      exact ih _ h2
    · have e3 : Dk.writeAll d (c :: r) = d.write c.1 c.2 := by rw [eq]; exact if_neg h1
      simp only [e3]
      exact .inr ⟨h1, h2.more⟩

def zeros (y : Jl) : List Chg := (bodyL y.body (List.replicate y.room zeroSec)).map ChI.nat
section
variable {y : Jl} {l : List Sec}
theorem tri_scrub (hy : y.Ok) (hl : l.length = y.total) : Tri (Is l []) (scrubD y) (Is (Dk.settle l (zeros y)) []) (Left l (zeros y)) :=
  (tri_writeAll (l := l) (bodyL y.body (List.replicate y.room zeroSec)) [] (by rw [hl]; exact bodyL_range (n := y.room) (by simp) hy.total)).cons ((tri_flush l (zeros y)).cons Tri.nil)
def l1 (l : List Sec) (c : List ChI) : List Sec := Dk.settle l (c.map ChI.nat)
def l2 (y : Jl) (l : List Sec) (c : List ChI) : List Sec := (l1 l c).set y.head zeroSec
def l3 (y : Jl) (l : List Sec) (c : List ChI) : List Sec := Dk.settle (l2 y l c) (zeros y)
def Broke (y : Jl) (l : List Sec) (c : List ChI) (d : Dk) : Prop := Left l (c.map ChI.nat) d ∨ Left (l1 l c) [(y.head, zeroSec)] d ∨ Left (l2 y l c) (zeros y) d
theorem l1_length (c : List ChI) : (l1 l c).length = l.length := settle_length _ _
theorem l2_length (c : List ChI) : (l2 y l c).length = l.length := by rw [l2, List.length_set, l1_length]
theorem tri_complete (hy : y.Ok) (hl : l.length = y.total) {c : List ChI} (hc : ∀ x ∈ c, 0 ≤ x.1 ∧ x.1 < (l.length : Int)) : Tri (Is l []) (completeD y c) (Is (l3 y l c) []) (Broke y l c) := by
  have hb := hy.body
  have ht := hy.total
  refine ((tri_writeAll c [] hc).weak fun d h => .inl h).cons ?_
  refine ((tri_flush l (c.map ChI.nat)).weak fun d h => .inl h).cons ?_
  refine ((tri_write (l := l1 l c) [] (x := (y.head : Int)) (s := zeroSec) (by omega) (by rw [l1_length, hl]; omega)).weak fun d h => .inr (.inl (h.more (vs := [(y.head, zeroSec)])))).cons ?_
  refine ((tri_flush (l1 l c) [(y.head, zeroSec)]).weak fun d h => .inr (.inl h)).cons ?_
  exact ((tri_scrub (l := l2 y l c) hy (by rw [l2_length]; exact hl)).weak fun d h => .inr (.inr h)).cons Tri.nil
def bodyN (y : Jl) (c : List ChI) : List Chg := (bodyL y.body (c.map (·.2))).map ChI.nat
def lb (y : Jl) (l : List Sec) (c : List ChI) : List Sec := Dk.settle l (bodyN y c)
def lh (y : Jl) (l : List Sec) (c : List ChI) : List Sec := (lb y l c).set y.head (headS (c.map (·.1)))
theorem lb_length (c : List ChI) : (lb y l c).length = l.length := settle_length _ _
theorem lh_length (c : List ChI) : (lh y l c).length = l.length := by rw [lh, List.length_set, lb_length]
def Split (y : Jl) (l : List Sec) (c : List ChI) (d : Dk) : Prop := Left l (bodyN y c) d ∨ Left (lb y l c) [(y.head, headS (c.map (·.1)))] d ∨ Broke y (lh y l c) c d
theorem tri_commit (hy : y.Ok) (hl : l.length = y.total) {c : List ChI} (hr : c.length ≤ y.room) (hc : ∀ x ∈ c, 0 ≤ x.1 ∧ x.1 < (l.length : Int)) :
    Tri (Is l []) (commitD y c) (Is (l3 y (lh y l c) c) []) (Split y l c) := by
  have hb := hy.body
  have ht := hy.total
  refine ((tri_writeAll (l := l) (bodyL y.body (c.map fun (x : ChI) => x.2)) [] (by rw [hl]; exact bodyL_range (n := y.room) (by simpa using hr) hy.total)).weak fun d h => (Or.inl h : Split y l c d)).cons ?_
  refine ((tri_flush l (bodyN y c)).weak fun d h => (Or.inl h : Split y l c d)).cons ?_
  refine ((tri_write (l := lb y l c) [] (x := (y.head : Int)) (s := headS (c.map fun (x : ChI) => x.1)) (by omega) (by rw [lb_length, hl]; omega)).weak fun d h => (Or.inr (Or.inl (h.more (vs := [(y.head, headS (c.map fun (x : ChI) => x.1))]))) : Split y l c d)).cons ?_
  refine ((tri_flush (lb y l c) [(y.head, headS (c.map fun (x : ChI) => x.1))]).weak fun d h => (Or.inr (Or.inl h) : Split y l c d)).cons ?_
  exact ((tri_complete (l := lh y l c) hy (by rw [lh_length]; exact hl) (by rw [lh_length]; exact hc)).weak fun d h => (Or.inr (Or.inr h) : Split y l c d)).cons Tri.nil
end

/-! ### A crash -/
theorem kept_sub : ∀ (keep : List Bool) (ws : List Chg), (Dk.kept keep ws).Sublist ws
  | [], ws => by simp [Dk.kept]
  | b :: keep, [] => by simp [Dk.kept]
  | b :: keep, c :: ws => by
    have ih := kept_sub keep ws
    unfold Dk.kept at ih ⊢
    rw [List.zip_cons_cons, List.filterMap_cons]
    cases b
    · exact ih.cons _
    · exact ih.cons_cons _
theorem Left.crashed {l : List Sec} {ws : List Chg} {d : Dk} (h : Left l ws d) (keep : List Bool) : ∃ vs : List Chg, vs.Sublist ws ∧ (d.crash keep).1.dur = Dk.settle l vs :=
  ⟨Dk.kept keep d.wait, (kept_sub keep d.wait).trans h.2.sublist, by show Dk.settle d.dur _ = _; rw [h.1]⟩

theorem settle_out {ws : List Chg} {i : Nat} (h : ∀ c ∈ ws, c.1 ≠ i) : ∀ l : List Sec, (Dk.settle l ws).getD i zeroSec = l.getD i zeroSec := by
  induction ws with
  | nil => intro l; rfl
  | cons c ws ih =>
    intro l
    show (Dk.settle (l.set c.1 c.2) ws).getD i zeroSec = _
    rw [ih (fun c hc => h c (by simp [hc])), List.getD_eq_getElem?_getD, List.getD_eq_getElem?_getD, List.getElem?_set_ne (h c (by simp))]
theorem settle_in {l : List Sec} {ws : List Chg} {i : Nat} {s : Sec} (hi : i < l.length) (h : ∃ c ∈ ws, c.1 = i) (hs : ∀ c ∈ ws, c.1 = i → c.2 = s) : (Dk.settle l ws).getD i zeroSec = s := by
  induction ws using snocInd with
  | nil => obtain ⟨c, hc, _⟩ := h; simp at hc
  | append_singleton ws c ih =>
    rw [settle_snoc]
    by_cases e : c.1 = i
    · rw [e, List.getD_eq_getElem?_getD, List.getElem?_set_self (by rw [settle_length]; exact hi)]
      exact hs c (by simp) e
    · rw [List.getD_eq_getElem?_getD, List.getElem?_set_ne e, ← List.getD_eq_getElem?_getD]
      refine ih ?_ (fun c hc => hs c (by simp [hc]))
      obtain ⟨c', h1, h2⟩ := h
      rcases List.mem_append.1 h1 with h1 | h1
      · exact ⟨c', h1, h2⟩
      · simp at h1; subst h1; exact absurd h2 e
theorem getD_ext {l m : List Sec} (hl : l.length = m.length) (h : ∀ i, i < l.length → l.getD i zeroSec = m.getD i zeroSec) : l = m := by
  apply List.ext_getElem hl
  intro i h1 h2
  have := h i h1
  rw [List.getD_eq_getElem?_getD, List.getD_eq_getElem?_getD, List.getElem?_eq_getElem h1, List.getElem?_eq_getElem h2] at this
  exact this
theorem getD_same {l : List Sec} {i : Nat} (h : i < l.length) (s : Sec) : (l.set i s).getD i zeroSec = s := by rw [List.getD_eq_getElem?_getD, List.getElem?_set_self h]; rfl
theorem getD_other {l : List Sec} {i j : Nat} (h : i ≠ j) (s : Sec) : (l.set i s).getD j zeroSec = l.getD j zeroSec := by rw [List.getD_eq_getElem?_getD, List.getD_eq_getElem?_getD, List.getElem?_set_ne h]

/-! ### What the sectors may be -/
def inJ (y : Jl) (i : Nat) : Prop := i = y.head ∨ (y.body ≤ i ∧ i < y.body + y.room)
/-- Head and body are noughts. -/
structure Tidy (y : Jl) (X : List Sec) : Prop where
  len : X.length = y.total
  head : X.getD y.head zeroSec = zeroSec
  body : ∀ k, k < y.room → X.getD (y.body + k) zeroSec = zeroSec
/-- The head is noughts, and all but the body is as in X. -/
structure Quiet (y : Jl) (X l : List Sec) : Prop where
  len : l.length = y.total
  head : l.getD y.head zeroSec = zeroSec
  out : ∀ i, ¬ inJ y i → l.getD i zeroSec = X.getD i zeroSec
/-- The changes stand in the journal. -/
structure Pend (y : Jl) (c : List ChI) (X l : List Sec) : Prop where
  len : l.length = y.total
  head : l.getD y.head zeroSec = headS (c.map (·.1))
  body : ∀ k x, c[k]? = some x → l.getD (y.body + k) zeroSec = x.2
  out : ∀ i, ¬ inJ y i → (∀ x ∈ c, x.1.toNat ≠ i) → l.getD i zeroSec = X.getD i zeroSec
/-- Changes that may be committed. -/
structure May (y : Jl) (c : List ChI) : Prop where
  ok : checkL y (c.map (·.1)) = 0
section
variable {y : Jl} {X l : List Sec} {c : List ChI}
theorem May.len (h : May y c) : 1 ≤ c.length ∧ c.length ≤ y.room := by have := check_zero h.ok; simp at this; omega
theorem May.at_ (h : May y c) {x : ChI} (hx : x ∈ c) : 2 ≤ x.1 ∧ x.1 < (y.head : Int) := (check_zero h.ok).2.2 x.1 (List.mem_map.2 ⟨x, hx, rfl⟩)
theorem May.range (hy : y.Ok) (h : May y c) : ∀ x ∈ c, 0 ≤ x.1 ∧ x.1 < (y.total : Int) := by
  intro x hx
  have := h.at_ hx
  have := hy.body
  have := hy.total
  omega
theorem May.notJ (hy : y.Ok) (h : May y c) {x : ChI} (hx : x ∈ c) : ¬ inJ y x.1.toNat := by
  have h1 := h.at_ hx
  have h2 := hy.body
  rintro (e | ⟨e, _⟩) <;> omega
theorem zeros_mem {x : Chg} (h : x ∈ zeros y) : (∃ k, k < y.room ∧ x.1 = y.body + k) ∧ x.2 = zeroSec := by
  obtain ⟨a, ha, rfl⟩ := List.mem_map.1 h
  obtain ⟨k, h1, h2, h3⟩ := bodyL_mem _ _ a ha
  rw [List.length_replicate] at h1
  refine ⟨⟨k, h1, ?_⟩, ?_⟩
  · show a.1.toNat = _
    omega
  · rw [List.getElem?_replicate, if_pos h1] at h3
    injection h3 with h3
    exact h3.symm
theorem bodyL_has : ∀ (l : List Sec) (b k : Nat) (s : Sec), l[k]? = some s → (((b + k : Nat) : Int), s) ∈ bodyL b l
  | [], b, k, s, h => by simp at h
  | a :: r, b, 0, s, h => by simp at h; subst h; simp [bodyL]
  | a :: r, b, k + 1, s, h => by
    rw [bodyL]
    have := bodyL_has r (b + 1) k s (by simpa using h)
    rw [show b + 1 + k = b + (k + 1) by omega] at this
    exact List.mem_cons_of_mem _ this
theorem zeros_has {k : Nat} (h : k < y.room) : (y.body + k, zeroSec) ∈ zeros y := by
  refine List.mem_map.2 ⟨_, bodyL_has _ y.body k zeroSec (by rw [List.getElem?_replicate, if_pos h]), ?_⟩
  show (((y.body + k : Nat) : Int).toNat, zeroSec) = _
  rw [Int.toNat_natCast]
theorem bodyN_mem {x : Chg} (h : x ∈ bodyN y c) : ∃ k z, c[k]? = some z ∧ x = (y.body + k, z.2) := by
  obtain ⟨a, ha, rfl⟩ := List.mem_map.1 h
  obtain ⟨k, h1, h2, h3⟩ := bodyL_mem _ _ a ha
  rw [List.getElem?_map] at h3
  obtain ⟨z, hz, e⟩ := Option.map_eq_some_iff.1 h3
  refine ⟨k, z, hz, Prod.ext ?_ e.symm⟩
  show a.1.toNat = _
  simp only
  omega
theorem bodyN_has {k : Nat} {z : ChI} (h : c[k]? = some z) : (y.body + k, z.2) ∈ bodyN y c := by
  refine List.mem_map.2 ⟨_, bodyL_has _ y.body k z.2 (by rw [List.getElem?_map, h]; rfl), ?_⟩
  show (((y.body + k : Nat) : Int).toNat, z.2) = _
  rw [Int.toNat_natCast]
/-- The sectors behind the changes. -/
def done (X : List Sec) (c : List ChI) : List Sec := Dk.settle X (c.map ChI.nat)
theorem done_out {i : Nat} (h : ∀ x ∈ c, x.1.toNat ≠ i) : (done X c).getD i zeroSec = X.getD i zeroSec := by
  refine settle_out ?_ X
  intro a ha
  obtain ⟨x, hx, rfl⟩ := List.mem_map.1 ha
  exact h x hx
theorem tidy_done (hy : y.Ok) (h : Tidy y X) (hm : May y c) : Tidy y (done X c) := by
  refine ⟨(settle_length _ _).trans h.len, ?_, fun k hk => ?_⟩
  · rw [done_out fun x hx e => hm.notJ hy hx (.inl e)]; exact h.head
  · rw [done_out fun x hx e => hm.notJ hy hx (.inr (by omega))]; exact h.body k hk
/-- Two rows of sectors that are changed alike are alike where they were, and where they are changed. -/
theorem settle_alike : ∀ (ws : List Chg) (l m : List Sec) (i : Nat), l.length = m.length → (l.getD i zeroSec = m.getD i zeroSec ∨ (i < l.length ∧ ∃ c ∈ ws, c.1 = i)) → (Dk.settle l ws).getD i zeroSec = (Dk.settle m ws).getD i zeroSec := by
  intro ws
  induction ws with
  | nil => intro l m i hl h; rcases h with h | ⟨_, c, hc, _⟩; exact h; simp at hc
  | cons c ws ih =>
    intro l m i hl h
    show (Dk.settle (l.set c.1 c.2) ws).getD i zeroSec = (Dk.settle (m.set c.1 c.2) ws).getD i zeroSec
    refine ih _ _ i (by simpa using hl) ?_
    by_cases e : c.1 = i
    · by_cases hi : i < l.length
      · subst e
        left
        rw [getD_same hi, getD_same (hl ▸ hi)]
      · left
        rw [List.getD_eq_getElem?_getD, List.getD_eq_getElem?_getD, List.getElem?_eq_none (by simp; omega), List.getElem?_eq_none (by simp; omega)]
    · rcases h with h | ⟨hi, x, hx, hx2⟩
      · left; rw [getD_other e, getD_other e]; exact h
      · rcases List.mem_cons.1 hx with rfl | hx
        · exact absurd hx2 e
        · exact .inr ⟨by simpa using hi, x, hx, hx2⟩

theorem Quiet.zeros (h : Quiet y X l) (hy : y.Ok) {vs : List Chg} (hv : vs.Sublist (zeros y)) : Quiet y X (Dk.settle l vs) := by
  have hb := hy.body
  refine ⟨(settle_length _ _).trans h.len, ?_, fun i hi => ?_⟩
  · rw [settle_out]
    · exact h.head
    · intro a ha e
      obtain ⟨⟨k, hk, e2⟩, _⟩ := zeros_mem (hv.subset ha)
      omega
  · rw [settle_out]
    · exact h.out i hi
    · intro a ha e
      obtain ⟨⟨k, hk, e2⟩, _⟩ := zeros_mem (hv.subset ha)
      exact hi (.inr (by omega))
theorem Quiet.all (h : Quiet y X l) (hy : y.Ok) (hX : Tidy y X) : Dk.settle l (Ytgkmbnmelepenaa.zeros y) = X := by
  have hq := h.zeros hy (List.Sublist.refl (Ytgkmbnmelepenaa.zeros y))
  refine getD_ext (hq.len.trans hX.len.symm) fun i hi => ?_
  by_cases e : i = y.head
  · subst e; rw [hq.head, hX.head]
  · by_cases hB : y.body ≤ i ∧ i < y.body + y.room
    · obtain ⟨k, rfl⟩ := Nat.exists_eq_add_of_le hB.1
      have ht := hy.total
      rw [settle_in (s := zeroSec) (by rw [h.len]; omega) ⟨_, zeros_has (y := y) (k := k) (by omega), rfl⟩ (fun a ha _ => (zeros_mem ha).2), hX.body k (by omega)]
    · exact hq.out i (by rintro (h | h); exact e h; exact hB h)
theorem one_sub {x : Chg} {vs : List Chg} (h : vs.Sublist [x]) : vs = [] ∨ vs = [x] := by
  cases h with
  | cons _ h => cases h; exact .inl rfl
  | cons_cons _ h => cases h; exact .inr rfl
/-- A Recover where nothing waits. -/
theorem Quiet.broke (h : Quiet y X l) (hy : y.Ok) {d : Dk} (hd : Broke y l [] d) (keep : List Bool) : Quiet y X (d.crash keep).1.dur := by
  have hb := hy.body
  have ht := hy.total
  have hset : Quiet y X (l.set y.head zeroSec) := ⟨by rw [List.length_set]; exact h.len, by rw [getD_same (by rw [h.len]; omega)], fun i hi => by rw [getD_other (fun e => hi (.inl e.symm))]; exact h.out i hi⟩
  rcases hd with hd | hd | hd
  · obtain ⟨vs, hv, e⟩ := hd.crashed keep
    rw [e]
    have : vs = [] := by simpa using hv
    subst this
    exact h
  · obtain ⟨vs, hv, e⟩ := hd.crashed keep
    rw [e]
    rcases one_sub hv with rfl | rfl
    · exact h
    · exact hset
  · obtain ⟨vs, hv, e⟩ := hd.crashed keep
    rw [e]
    exact Quiet.zeros hset hy hv
theorem Quiet.ended (h : Quiet y X l) (hy : y.Ok) (hX : Tidy y X) : l3 y l [] = X := by
  have hb := hy.body
  have ht := hy.total
  have hset : Quiet y X (l.set y.head zeroSec) := ⟨by rw [List.length_set]; exact h.len, by rw [getD_same (by rw [h.len]; omega)], fun i hi => by rw [getD_other (fun e => hi (.inl e.symm))]; exact h.out i hi⟩
  exact hset.all hy hX
/-- The changes written, or some of them, or in part: they still stand in the journal. -/
theorem Pend.some (h : Pend y c X l) (hy : y.Ok) (hm : May y c) {vs : List Chg} (hv : vs.Sublist (c.map ChI.nat)) : Pend y c X (Dk.settle l vs) := by
  have hmem : ∀ a ∈ vs, ∃ x ∈ c, a = x.nat := fun a ha => by
    obtain ⟨x, hx, e⟩ := List.mem_map.1 (hv.subset ha)
    exact ⟨x, hx, e.symm⟩
  refine ⟨(settle_length _ _).trans h.len, ?_, fun k x hk => ?_, fun i hi hx => ?_⟩
  · rw [settle_out]
    · exact h.head
    · rintro a ha e
      obtain ⟨x, hx, rfl⟩ := hmem a ha
      exact hm.notJ hy hx (.inl e)
  · have hlen := hm.len
    have hk2 := (List.getElem?_eq_some_iff.1 hk).1
    rw [settle_out]
    · exact h.body k x hk
    · rintro a ha e
      obtain ⟨z, hz, rfl⟩ := hmem a ha
      exact hm.notJ hy hz (.inr (by show y.body ≤ z.1.toNat ∧ z.1.toNat < _; have e2 : z.1.toNat = y.body + k := e; omega))
  · rw [settle_out]
    · exact h.out i hi hx
    · rintro a ha e
      obtain ⟨z, hz, rfl⟩ := hmem a ha
      exact hx z hz e
/-- All changes written, and the head cleared. -/
theorem Pend.full (h : Pend y c X l) (hy : y.Ok) (hX : Tidy y X) (hm : May y c) : Quiet y (done X c) ((l1 l c).set y.head zeroSec) := by
  have hb := hy.body
  have ht := hy.total
  refine ⟨by rw [List.length_set, l1_length]; exact h.len, by rw [getD_same (by rw [l1_length, h.len]; omega)], fun i hi => ?_⟩
  rw [getD_other (fun e => hi (.inl e.symm))]
  unfold l1 done
  refine settle_alike _ _ _ i (h.len.trans hX.len.symm) ?_
  by_cases hx : ∀ x ∈ c, x.1.toNat ≠ i
  · exact .inl (h.out i hi hx)
  · simp only [Classical.not_forall, Decidable.not_not] at hx
    obtain ⟨x, hx, e⟩ := hx
    have := hm.at_ hx
    exact .inr ⟨by rw [h.len]; omega, x.nat, List.mem_map.2 ⟨x, hx, rfl⟩, e⟩
/-- A Recover of the changes. -/
theorem Pend.broke (h : Pend y c X l) (hy : y.Ok) (hX : Tidy y X) (hm : May y c) {d : Dk} (hd : Broke y l c d) (keep : List Bool) : Pend y c X (d.crash keep).1.dur ∨ Quiet y (done X c) (d.crash keep).1.dur := by
  rcases hd with hd | hd | hd
  · obtain ⟨vs, hv, e⟩ := hd.crashed keep
    rw [e]
    exact .inl (h.some hy hm hv)
  · obtain ⟨vs, hv, e⟩ := hd.crashed keep
    rw [e]
    rcases one_sub hv with rfl | rfl
    · exact .inl (h.some hy hm (List.Sublist.refl _))
    · exact .inr (h.full hy hX hm)
  · obtain ⟨vs, hv, e⟩ := hd.crashed keep
    rw [e]
    exact .inr (Quiet.zeros (h.full hy hX hm) hy hv)
theorem Pend.ended (h : Pend y c X l) (hy : y.Ok) (hX : Tidy y X) (hm : May y c) : l3 y l c = done X c := (h.full hy hX hm).all hy (tidy_done hy hX hm)
theorem Tidy.quiet (h : Tidy y X) : Quiet y X X := ⟨h.len, h.head, fun _ _ => rfl⟩
/-- The body written, or some of it. -/
theorem Tidy.bodies (h : Tidy y X) (hy : y.Ok) (hm : May y c) {vs : List Chg} (hv : vs.Sublist (bodyN y c)) : Quiet y X (Dk.settle X vs) := by
  have hb := hy.body
  have hlen := hm.len
  have hmem : ∀ a ∈ vs, y.body ≤ a.1 ∧ a.1 < y.body + y.room := fun a ha => by
    obtain ⟨k, z, hk, rfl⟩ := bodyN_mem (hv.subset ha)
    have := (List.getElem?_eq_some_iff.1 hk).1
    simp only
    omega
  refine ⟨(settle_length _ _).trans h.len, ?_, fun i hi => ?_⟩
  · rw [settle_out]
    · exact h.head
    · intro a ha e
      have := hmem a ha
      omega
  · rw [settle_out]
    intro a ha e
    exact hi (.inr (e ▸ hmem a ha))
theorem Tidy.pend (h : Tidy y X) (hy : y.Ok) (hm : May y c) : Pend y c X (lh y X c) := by
  have hb := hy.body
  have ht := hy.total
  have hlen := hm.len
  have hq := h.bodies hy hm (List.Sublist.refl _)
  refine ⟨by rw [lh_length]; exact h.len, ?_, fun k x hk => ?_, fun i hi _ => ?_⟩
  · rw [lh, getD_same (by rw [lb_length, h.len]; omega)]
  · have hk2 := (List.getElem?_eq_some_iff.1 hk).1
    rw [lh, getD_other (by omega), lb]
    refine settle_in (by rw [h.len]; omega) ⟨_, bodyN_has hk, rfl⟩ fun a ha e => ?_
    obtain ⟨k', z, hk', rfl⟩ := bodyN_mem ha
    have : k' = k := by simp only at e; omega
    subst this
    rw [hk] at hk'
    injection hk' with e
    rw [e]
  · rw [lh, getD_other (fun e => hi (.inl e.symm))]
    exact hq.out i hi
/-- A Commit that breaks off. -/
theorem Tidy.broke (h : Tidy y X) (hy : y.Ok) (hm : May y c) {d : Dk} (hd : Split y X c d) (keep : List Bool) :
    Quiet y X (d.crash keep).1.dur ∨ Pend y c X (d.crash keep).1.dur ∨ Quiet y (done X c) (d.crash keep).1.dur := by
  rcases hd with hd | hd | hd
  · obtain ⟨vs, hv, e⟩ := hd.crashed keep
    rw [e]
    exact .inl (h.bodies hy hm hv)
  · obtain ⟨vs, hv, e⟩ := hd.crashed keep
    rw [e]
    rcases one_sub hv with rfl | rfl
    · exact .inl (h.bodies hy hm (List.Sublist.refl _))
    · exact .inr (.inl (h.pend hy hm))
  · exact .inr ((h.pend hy hm).broke hy h hm hd keep)

/-! ### What waits in the journal -/
theorem pend_quiet (h : Quiet y X l) {d : Dk} (hd : Is l [] d) : pendL y d = [] := by
  unfold pendL
  have e : Dk.look d.dur d.wait y.head = zeroSec := by rw [hd.wait]; show d.dur.getD _ _ = _; rw [hd.dur]; exact h.head
  rw [e, targets_zero]
theorem pendFrom_eq {d : Dk} (hd : Is l [] d) : ∀ (c : List ChI) (b : Nat), (∀ k x, c[k]? = some x → l.getD (b + k) zeroSec = x.2) → pendFrom d b (c.map (·.1)) = c
  | [], _, _ => rfl
  | a :: r, b, h => by
    rw [List.map_cons, pendFrom, pendFrom_eq hd r (b + 1) (fun k x hk => by have := h (k + 1) x (by simpa using hk); rw [show b + 1 + k = b + (k + 1) by omega]; exact this)]
    have := h 0 a rfl
    rw [hd.wait]
    show (a.1, d.dur.getD b zeroSec) :: r = _
    rw [hd.dur, show l.getD b zeroSec = a.2 from this]
theorem pend_pend (h : Pend y c X l) (hy : y.Ok) (hm : May y c) {d : Dk} (hd : Is l [] d) : pendL y d = c := by
  unfold pendL
  have e : Dk.look d.dur d.wait y.head = headS (c.map (·.1)) := by rw [hd.wait]; show d.dur.getD _ _ = _; rw [hd.dur]; exact h.head
  have hr := hy.room
  have hlen := hm.len
  have hh := hy.total
  have hs := hy.small
  have hb := hy.body
  rw [e, targets_head (by simpa using hlen.1) (by simp; omega) (fun x hx => by
    obtain ⟨a, ha, rfl⟩ := List.mem_map.1 hx
    have := hm.at_ ha
    omega)]
  simp only [hm.ok, if_true]
  exact pendFrom_eq hd c y.body h.body

/-! ### The rounds of the laws -/
/-- The disk is up, has no fuse, nothing waits, and its sectors are as P says. -/
structure Rest (P : List Sec → Prop) (d : Dk) : Prop where
  up : d.down = false
  fuse : d.fuse = none
  wait : d.wait = []
  dur : P d.dur
theorem rest_crash {P : List Sec → Prop} {d : Dk} {keep : List Bool} (h : P (d.crash keep).1.dur) : Rest P (d.crash keep).1 := ⟨rfl, rfl, rfl, h⟩
theorem Rest.is {P : List Sec → Prop} {d : Dk} (h : Rest P d) : Is d.dur [] d := ⟨h.up, rfl, h.wait⟩
theorem Rest.fused {P : List Sec → Prop} {d : Dk} (h : Rest P d) (f : Int) : Is d.dur [] (d.setFuse f) := ⟨h.up, rfl, h.wait⟩
/-- What the sectors may be behind a Commit of c that broke off, and the Recovers behind it. -/
def Mid (y : Jl) (c : List ChI) (X l : List Sec) : Prop := Quiet y X l ∨ Pend y c X l ∨ Quiet y (done X c) l
theorem pend_range (hy : y.Ok) {d : Dk} : ∀ x ∈ pendL y d, 0 ≤ x.1 ∧ x.1 < (y.total : Int) := by
  unfold pendL
  split
  · simp
  · rename_i ts _
    split
    · rename_i hc
      have hh := (check_zero hc).2.2
      have hb := hy.body
      have ht := hy.total
      have : ∀ (b : Nat) (ts : List Int), (∀ x ∈ ts, 2 ≤ x ∧ x < (y.head : Int)) → ∀ x ∈ pendFrom d b ts, 0 ≤ x.1 ∧ x.1 < (y.total : Int) := by
        intro b ts
        induction ts generalizing b with
        | nil => intro _ x hx; simp [pendFrom] at hx
        | cons a r ih =>
          intro h x hx
          rw [pendFrom] at hx
          rcases List.mem_cons.1 hx with rfl | hx
          · have := h a (by simp)
            simp only
            omega
          · exact ih (b + 1) (fun x hx => h x (by simp [hx])) x hx
      exact this _ _ hh
    · simp
theorem pendFrom_length (d : Dk) : ∀ (ts : List Int) (b : Nat), (pendFrom d b ts).length = ts.length
  | [], _ => rfl
  | a :: r, b => by rw [pendFrom, List.length_cons, pendFrom_length d r, List.length_cons]
theorem pend_length (d : Dk) : (pendL y d).length ≤ y.room := by
  unfold pendL
  split
  · simp
  · split
    · rename_i hc
      rw [pendFrom_length]
      exact (check_zero hc).2.1
    · simp
theorem quiet_round (hy : y.Ok) (hX : Tidy y X) {d : Dk} (hd : Rest (Quiet y X) d) (f : Int) (keep : List Bool) : Quiet y X ((recoverD y (d.setFuse f)).1.crash keep).1.dur := by
  have hi := hd.fused f
  unfold recoverD
  rw [pend_quiet hd.dur hi]
  rcases tri_complete hy (hd.dur.len) (c := []) (by simp) _ hi with ⟨_, h⟩ | ⟨_, h⟩
  · have : ((completeD y [] (d.setFuse f)).1.crash keep).1.dur = X := by
      show Dk.settle _ (Dk.kept keep _) = X
      rw [h.wait, h.dur]
      show l3 y d.dur [] = X
      exact hd.dur.ended hy hX
    rw [this]
    exact hX.quiet
  · exact hd.dur.broke hy h keep
theorem pend_round (hy : y.Ok) (hX : Tidy y X) (hm : May y c) {d : Dk} (hd : Rest (Pend y c X) d) (f : Int) (keep : List Bool) : Pend y c X ((recoverD y (d.setFuse f)).1.crash keep).1.dur ∨ Quiet y (done X c) ((recoverD y (d.setFuse f)).1.crash keep).1.dur := by
  have hi := hd.fused f
  unfold recoverD
  rw [pend_pend hd.dur hy hm hi]
  rcases tri_complete hy (hd.dur.len) (c := c) (by rw [hd.dur.len]; exact hm.range hy) _ hi with ⟨_, h⟩ | ⟨_, h⟩
  · have : ((completeD y c (d.setFuse f)).1.crash keep).1.dur = done X c := by
      show Dk.settle _ (Dk.kept keep _) = _
      rw [h.wait, h.dur]
      show l3 y d.dur c = _
      exact hd.dur.ended hy hX hm
    rw [this]
    exact .inr (tidy_done hy hX hm).quiet
  · exact hd.dur.broke hy hX hm h keep
theorem mid_round (hy : y.Ok) (hX : Tidy y X) (hm : May y c) {d : Dk} (hd : Rest (Mid y c X) d) (f : Int) (keep : List Bool) : Rest (Mid y c X) ((recoverD y (d.setFuse f)).1.crash keep).1 := by
  refine rest_crash ?_
  rcases hd.dur with h | h | h
  · exact .inl (quiet_round hy hX ⟨hd.up, hd.fuse, hd.wait, h⟩ f keep)
  · exact .inr (pend_round hy hX hm ⟨hd.up, hd.fuse, hd.wait, h⟩ f keep)
  · exact .inr (.inr (quiet_round hy (tidy_done hy hX hm) ⟨hd.up, hd.fuse, hd.wait, h⟩ f keep))
theorem quiet_mid_round (hy : y.Ok) (hX : Tidy y X) {d : Dk} (hd : Rest (Quiet y X) d) (f : Int) (keep : List Bool) : Rest (Quiet y X) ((recoverD y (d.setFuse f)).1.crash keep).1 := rest_crash (quiet_round hy hX hd f keep)
/-- A Recover with no fuse. -/
theorem recover_last (hy : y.Ok) {d : Dk} (hu : d.down = false) (hf : d.fuse = none) (hl : d.dur.length = y.total) : (recoverD y d).2 = 0 ∧ (recoverD y d).1.down = false ∧ (recoverD y d).1.fuse = none := by
  obtain ⟨_, h, _⟩ := complete_ticks hy (l := pendL y d) (pend_range hy) d hu hl
  obtain ⟨a, b, _, e⟩ := h (by rw [hf]; simp)
  exact ⟨a, b, by rw [show (recoverD y d).1.fuse = _ from e, hf]; rfl⟩
theorem quiet_last (hy : y.Ok) (hX : Tidy y X) {d : Dk} (hd : Rest (Quiet y X) d) : (recoverD y d).2 = 0 ∧ Rest (· = X) (recoverD y d).1 := by
  obtain ⟨h1, h2, h3⟩ := recover_last hy hd.up hd.fuse hd.dur.len
  have hi := hd.is
  unfold recoverD at *
  rw [pend_quiet hd.dur hi] at *
  rcases tri_complete hy (hd.dur.len) (c := []) (by simp) _ hi with ⟨_, h⟩ | ⟨h, _⟩
  · exact ⟨h1, h2, h3, h.wait, by rw [h.dur]; exact hd.dur.ended hy hX⟩
  · exact absurd h1 h
theorem pend_last (hy : y.Ok) (hX : Tidy y X) (hm : May y c) {d : Dk} (hd : Rest (Pend y c X) d) : (recoverD y d).2 = 0 ∧ Rest (· = done X c) (recoverD y d).1 := by
  obtain ⟨h1, h2, h3⟩ := recover_last hy hd.up hd.fuse hd.dur.len
  have hi := hd.is
  unfold recoverD at *
  rw [pend_pend hd.dur hy hm hi] at *
  rcases tri_complete hy (hd.dur.len) (c := c) (by rw [hd.dur.len]; exact hm.range hy) _ hi with ⟨_, h⟩ | ⟨h, _⟩
  · exact ⟨h1, h2, h3, h.wait, by rw [h.dur]; exact hd.dur.ended hy hX hm⟩
  · exact absurd h1 h
theorem mid_last (hy : y.Ok) (hX : Tidy y X) (hm : May y c) {d : Dk} (hd : Rest (Mid y c X) d) : (recoverD y d).2 = 0 ∧ (Rest (· = X) (recoverD y d).1 ∨ Rest (· = done X c) (recoverD y d).1) := by
  rcases hd.dur with h | h | h
  · obtain ⟨a, b⟩ := quiet_last hy hX ⟨hd.up, hd.fuse, hd.wait, h⟩
    exact ⟨a, .inl b⟩
  · obtain ⟨a, b⟩ := pend_last hy hX hm ⟨hd.up, hd.fuse, hd.wait, h⟩
    exact ⟨a, .inr b⟩
  · obtain ⟨a, b⟩ := quiet_last hy (tidy_done hy hX hm) ⟨hd.up, hd.fuse, hd.wait, h⟩
    exact ⟨a, .inr b⟩
theorem clean_tidy (hX : Tidy y X) {d : Dk} (hd : Rest (· = X) d) : cleanD y d = true := by
  unfold cleanD
  have e : ∀ i, Dk.look d.dur d.wait i = X.getD i zeroSec := fun i => by rw [hd.wait]; show d.dur.getD _ _ = _; rw [hd.dur]
  simp only [e, Bool.and_eq_true, decide_eq_true_eq, List.all_eq_true, List.mem_range]
  exact ⟨hX.head, hX.body⟩
theorem pend_tidy (hX : Tidy y X) {d : Dk} (hd : Rest (· = X) d) : pendL y d = [] := pend_quiet (l := d.dur) (X := X) (by rw [hd.dur]; exact hX.quiet) hd.is
/-- A Commit of changes that may be, on a disk with no fuse. -/
theorem commit_yes (hy : y.Ok) (hX : Tidy y X) (hm : May y c) {d : Dk} (hd : Rest (· = X) d) : (commitD y c d).2 = 0 ∧ Rest (· = done X c) (commitD y c d).1 := by
  have hl : d.dur.length = y.total := by rw [hd.dur]; exact hX.len
  obtain ⟨_, h, _⟩ := commit_ticks hy hm.len.2 (hm.range hy) d hd.up hl
  obtain ⟨a, b, _, e⟩ := h (by rw [hd.fuse]; simp)
  rcases tri_commit hy hX.len hm.len.2 (by rw [hX.len]; exact hm.range hy) d ⟨hd.up, hd.dur, hd.wait⟩ with ⟨_, h⟩ | ⟨h, _⟩
  · exact ⟨a, b, by rw [e, hd.fuse]; rfl, h.wait, by rw [h.dur]; exact (hX.pend hy hm).ended hy hX hm⟩
  · exact absurd a h
/-- A Commit with a fuse, and a crash behind it. -/
theorem commit_crash (hy : y.Ok) (hX : Tidy y X) (hm : May y c) {d : Dk} (hd : Rest (· = X) d) (f : Int) (keep : List Bool) :
    ((commitD y c (d.setFuse f)).2 = 0 ∧ Rest (Quiet y (done X c)) ((commitD y c (d.setFuse f)).1.crash keep).1) ∨ ((commitD y c (d.setFuse f)).2 ≠ 0 ∧ Rest (Mid y c X) ((commitD y c (d.setFuse f)).1.crash keep).1) := by
  rcases tri_commit hy hX.len hm.len.2 (by rw [hX.len]; exact hm.range hy) (d.setFuse f) ⟨hd.up, hd.dur, hd.wait⟩ with ⟨h0, h⟩ | ⟨h0, h⟩
  · refine .inl ⟨h0, rest_crash ?_⟩
    have : ((commitD y c (d.setFuse f)).1.crash keep).1.dur = done X c := by
      show Dk.settle _ (Dk.kept keep _) = _
      rw [h.wait, h.dur]
      exact (hX.pend hy hm).ended hy hX hm
    rw [this]
    exact (tidy_done hy hX hm).quiet
  · exact .inr ⟨h0, rest_crash (hX.broke hy hm h keep)⟩
/-- How a Commit ends. -/
theorem inOrder_code : ∀ (fs : List (Dk → Dk × Int)) (d : Dk), (Dk.inOrder fs d).2 = 0 ∨ (Dk.inOrder fs d).2 = 4
  | [], d => .inl rfl
  | f :: r, d => by
    unfold Dk.inOrder
    split
    · exact inOrder_code r _
    · exact .inr rfl
theorem commit_code (d : Dk) : (commitD y c d).2 = 0 ∨ (commitD y c d).2 = 4 := inOrder_code _ d
theorem complete_code (d : Dk) : (completeD y c d).2 = 0 ∨ (completeD y c d).2 = 4 := inOrder_code _ d
end
theorem tidy_new {y : Jl} : Tidy y (List.replicate y.total zeroSec) := by
  have : ∀ i, (List.replicate y.total zeroSec).getD i zeroSec = zeroSec := by
    intro i
    rw [List.getD_eq_getElem?_getD, List.getElem?_replicate]
    split <;> rfl
  exact ⟨List.length_replicate, this _, fun k _ => this _⟩
end Go.Proofs.Ytgkmbnmelepenaa
