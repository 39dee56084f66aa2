/-
  Contracts of crc.Four and crc.Sealed.
  Fields of the law WordBack: what they are as data, their bytes, and where they lie. No program is named here.
-/
import Derived.Test.YtmcnhcbibcjgnaaPkGet
import Derived.Test.YtmcnhcbibcjgnaaPkPutO
import Derived.Test.YtmcnhcbibcjgnaaPkArr
import Derived.Test.YtmcnhcbibcjgnaaPkWholeN
namespace Go.Proofs.Ytmcnhcbibcjgnaa
open Go.RowKit
set_option linter.unusedVariables false

def no4 : List UInt8 := [0, 0, 0, 0]
theorem Try.zero4 : (Try.prog.info? 83).bind (·.zero) = some (.agg (cells no4).toArray) := by kernel_rfl
theorem Try.size4 : (Try.prog.info? 83).map (·.size) = some 4 := by kernel_rfl
theorem Try.len4 : Try.prog.arrayLen 83 = 4 := by kernel_rfl

theorem four_cells (s : BitVec 32) : (cells (four s)).toArray = #[.int .u8 (nv s % 256), .int .u8 (nv s / 256 % 256), .int .u8 (nv s / 65536 % 256), .int .u8 (nv s / 16777216)] := by
  have hs := s.isLt
  have h (a : Nat) (b : Int) (h : ((a % 256 : Nat) : Int) = b) : Value.int .u8 ((UInt8.ofNat a).toNat : Int) = .int .u8 b := by rw [toNat_ofNat, h]
  unfold four cells nv putB putB putB putB putB
  simp only [List.map_cons, List.map_nil]
  rw [h _ ((s.toNat : Int) % 256) (by omega), h _ ((s.toNat : Int) / 256 % 256) (by omega), h _ ((s.toNat : Int) / 65536 % 256) (by omega), h _ ((s.toNat : Int) / 16777216) (by omega)]

set_option maxRecDepth 100000 in
set_option maxHeartbeats 400000 in
theorem four_any (s : BitVec 32) (w : World) :
    Calls Try.prog 48 #[.int .u32 (nv s)] w fun e w' => e = .returned (.agg (cells (four s)).toArray) ∧ Below w.heap.size w w' := by
  have hs := nv_bd s
  go_enter Try.func48, Try.ntmps48
  go_wp2
  refine wp_loop_rounds 5 ?_
  rw [rounds_succ]
  go_wp2
  rw [rounds_succ]
  go_wp2
  rw [rounds_succ]
  go_wp2
  rw [rounds_succ]
  go_wp2
  rw [rounds_succ]
  go_wp2
  refine bodyPost_ret (v := .agg (cells (four s)).toArray) (by rw [four_cells]; simp [results, Try.results48, go_sem]) rfl ⟨rfl, ?_⟩
  exact ((Below.refl _ _).alloc (Nat.le_refl _) _).alloc (by simp) _

/-- A call that answers new bytes in a row of its own, which may be written, and turns nothing that was there. -/
def RetOwn (w : World) (xs : List UInt8) (e : Ending) (w' : World) : Prop :=
  ∃ v, e = .returned v ∧ w'.ownsRow w.heap.size 5 1 v xs.length (cells xs) ∧ Below w.heap.size w w'

set_option maxRecDepth 100000 in
set_option maxHeartbeats 400000 in
theorem sealed_own (A : Option Addr) (n c : Nat) (xs : List UInt8) (w : World) (B : Nat) (h : Lies w B A xs) (hB : B ≤ w.heap.size) (hn : n = xs.length) (hl : n + 4 ≤ 140737488355328) :
    Calls Try.prog 38 #[.slice A n c] w (RetOwn w (sealB xs)) := by
  obtain ⟨i0, hi, hz0, hz1, hz2⟩ := info_parts Try.info5
  have Hn := Lib.hid hn
  have Hh := Lib.hid h
  clear hn h
  go_enter Try.func38, Try.ntmps38
  go_wp2_with fail
  refine (crc_of_any _ _ _ xs _ B Hh.out Hn.out (by omega)).mono ?_
  rintro e w' ⟨rfl, rfl⟩
  go_wp2_with fail
  refine (four_any (crcOf xs) _).mono ?_
  rintro e w1 ⟨rfl, hb1⟩
  have Hsz3 : Hid ((Try.prog.info? 83).map (·.size) = some ((cells (four (crcOf xs))).toArray).size) := by show _ = _; rw [Try.size4]; simp only [List.size_toArray, cells_length, four_length]
  have Hold : Hid (((cells no4).toArray).size = ((cells (four (crcOf xs))).toArray).size) := by show _ = _; simp only [List.size_toArray, cells_length, four_length]; rfl
  go_wp2_with (with_reducible refine wpList_alloc_row rfl 83 rfl no4 Try.zero4 ?_)
  intro w2 hr2 hb2 hs2
  have hr3 := hr2.set (four (crcOf xs))
  have hb3 : Below w.heap.size w (w2.setRow w1.heap.size (cells (four (crcOf xs))).toArray) := below_setRow (below_seq hb1 hb2) hb1.size _
  have hs3 : (w2.setRow w1.heap.size (cells (four (crcOf xs))).toArray).heap.size = w1.heap.size + 1 := by simp [hs2]
  have hs1 := hb1.size
  refine wpList_store_row rfl 83 _ _ rfl w1.heap.size _ rfl rfl 83 _ hr2 Hsz3.out Hold.out (cells_oneCell _) ?_
  generalize w2.setRow w1.heap.size (cells (four (crcOf xs))).toArray = w3 at *
  clear hb2 hr2 hs2
  go_wp2_with (at_make; refine wpList_make_own _ rfl _ _ 66 rfl w.heap.size 5 i0 (.int .u8 0) 1 Try.underlying66 hi hz0 hz1 _ _ _ (n + 4) rfl rfl (by omega) (by rw [hz2]; omega) (by unfold maxLen; omega) (by omega) ?_)
  intro w4 hown4 hg4
  have hr4 := hr3.keep hg4 (by simp)
  have hb4 : Below w.heap.size w w4 := hb3.grown hg4 (by omega) (by simp)
  have hL4 : Lies w4 B A xs := Hh.out.below (hb4.mono hB)
  have hs4 := hg4.size
  have hA4 := (heap_alloc_new w (.cells #[] 5))
  clear hA4
  go_wp2_with (at_builtin; refine wpList_append_lies rfl _ _ 66 rfl w.heap.size i0 Try.underlying66 hi hz0 hz1 hz2 _ 0 [] xs rfl hown4 B _ _ _ rfl hL4 Hn.out (by omega) (by omega) ?_)
  intro v5 w5 hown5 hg5
  have hr5 := hr4.keep hg5 (by simp only [Value.ownBlock]; intro e; injection e with e; omega)
  have hb5 : Below w.heap.size w w5 := hb4.grown hg5 (by omega) (by simp only [Value.ownBlock]; intro k e; injection e with e; omega)
  have hl5 := hr5.lies
  have hge := own_ge hown5
  have hs5 := hg5.size
  go_wp2_with (at_builtin; refine wpList_append_lies rfl _ _ 66 rfl w.heap.size i0 Try.underlying66 hi hz0 hz1 hz2 _ n xs (four (crcOf xs)) rfl hown5 w5.heap.size _ _ _ rfl hl5 (by rw [four_length]) (by omega) (by omega) ?_)
  intro v6 w6 hown6 hg6
  have hb6 : Below w.heap.size w w6 := hb5.grown hg6 (by omega) hge
  go_wp2
  go_ret
  refine ⟨v6, rfl, ?_, hb6⟩
  rw [sealB_length, ← Hn.out]
  exact hown6

theorem sealed_any (A : Option Addr) (n c : Nat) (xs : List UInt8) (w : World) (B : Nat) (h : Lies w B A xs) (hB : B ≤ w.heap.size) (hn : n = xs.length) (hl : n + 4 ≤ 140737488355328) :
    Calls Try.prog 38 #[.slice A n c] w (RetNew w (sealB xs)) := by
  refine (sealed_own A n c xs w B h hB hn hl).mono ?_
  rintro e w' ⟨v, rfl, hown, hb⟩
  obtain ⟨A', c', rfl, hk1, hk2, hk3, hk4⟩ := Lies.of_own hown
  exact ⟨A', c', rfl, hk2, hk3, hk4, hb, Fresh.of_own hown⟩
end Go.Proofs.Ytmcnhcbibcjgnaa
namespace Go.Proofs.Ytmcnhcbibcjgnaa
open Go.RowKit
set_option linter.unusedVariables false

structure Fld where
  t : Bool
  sz : UInt8
  n : Nat
  s : ByteArray

def Fld.k (f : Fld) : Nat := 1 + f.sz.toNat % 8
def Fld.ok (f : Fld) : Prop := f.t = true → f.s.size + 1 ≤ f.k
def Fld.enc (f : Fld) : List UInt8 := if f.t = true then padB f.s.data.toList f.k else putB f.n f.k
def encs (l : List Fld) : List UInt8 := l.flatMap Fld.enc

theorem Fld.k_pos (f : Fld) : 1 ≤ f.k ∧ f.k ≤ 8 := by unfold Fld.k; omega
theorem padB_length {s : List UInt8} {k : Nat} (h : s.length + 1 ≤ k) : (padB s k).length = k := fill_length (by simpa using h)
theorem Fld.enc_length {f : Fld} (h : f.ok) : f.enc.length = f.k := by
  unfold Fld.enc
  split
  · rename_i ht
    exact padB_length (by have := h ht; rw [Lib.size_eq] at this; exact this)
  · exact putB_length _ _
theorem encs_snoc {l : List Fld} {i : Nat} {f : Fld} (h : l[i]? = some f) : encs (l.take (i + 1)) = encs (l.take i) ++ f.enc := by
  obtain ⟨hi, rfl⟩ := List.getElem?_eq_some_iff.1 h
  unfold encs
  rw [List.take_succ_eq_append_getElem hi, List.flatMap_append]
  simp
theorem encs_drop {l : List Fld} {i : Nat} {f : Fld} (h : l[i]? = some f) : encs (l.drop i) = f.enc ++ encs (l.drop (i + 1)) := by
  obtain ⟨hi, rfl⟩ := List.getElem?_eq_some_iff.1 h
  unfold encs
  rw [List.drop_eq_getElem_cons hi, List.flatMap_cons]
theorem encs_length_le : ∀ (l : List Fld), (∀ f ∈ l, f.ok) → (encs l).length ≤ 8 * l.length
  | [], _ => by simp [encs]
  | f :: l, h => by
    have h1 := encs_length_le l (fun g hg => h g (by simp [hg]))
    have h2 := Fld.enc_length (h f (by simp))
    have h3 := f.k_pos
    have e : encs (f :: l) = f.enc ++ encs l := by simp [encs]
    rw [e, List.length_append, List.length_cons]
    omega
theorem unpad_pad {s : List UInt8} {k : Nat} (h : s.length + 1 ≤ k) (hk : k ≤ 256) : unpadO (padB s k) = some s := by
  unfold padB fill
  rw [List.cons_append]
  have hx : (UInt8.ofNat s.length).toNat = s.length := by rw [toNat_ofNat]; omega
  have hz : ∀ m, zeros (List.replicate m 0) = true := fun m => by
    unfold zeros
    rw [List.all_eq_true]
    intro x hx
    rw [(List.mem_replicate.1 hx).2]
    rfl
  have e : ∀ (x : UInt8) (ys : List UInt8), unpadO (x :: ys) = if x.toNat ≤ ys.length ∧ zeros (ys.drop x.toNat) = true then some (ys.take x.toNat) else none := fun _ _ => rfl
  rw [e, hx, List.drop_left' rfl, List.take_left' rfl, if_pos ⟨by simp, hz _⟩]

/-- The fields l lie at the address A, four cells each, in a block below B. -/
def Flds (w : World) (B : Nat) (A : Option Addr) (l : List Fld) : Prop :=
  l ≠ [] → ∃ b o, A = some ⟨b, o, none⟩ ∧ b < B ∧ ∀ (i : Nat) (f : Fld), l[i]? = some f →
    w.cell? ⟨b, o + i * 4, none⟩ = some (.bool f.t) ∧ w.cell? ⟨b, o + i * 4 + 1, none⟩ = some (.int .u8 (f.sz.toNat : Int)) ∧
    w.cell? ⟨b, o + i * 4 + 2, none⟩ = some (.int .u64 (f.n : Int)) ∧ w.cell? ⟨b, o + i * 4 + 3, none⟩ = some (.string f.s) ∧ f.n < 18446744073709551616
theorem Flds.below {w w' : World} {B : Nat} {A : Option Addr} {l : List Fld} (h : Flds w B A l) (hb : Below B w w') : Flds w' B A l := fun hl => by
  obtain ⟨b, o, e, hbB, hc⟩ := h hl
  refine ⟨b, o, e, hbB, fun i f hi => ?_⟩
  obtain ⟨c0, c1, c2, c3, h4⟩ := hc i f hi
  exact ⟨(hb.cell hbB).trans c0, (hb.cell hbB).trans c1, (hb.cell hbB).trans c2, (hb.cell hbB).trans c3, h4⟩
theorem Flds.at_ {w : World} {B : Nat} {A : Option Addr} {l : List Fld} (h : Flds w B A l) {i : Nat} (hi : i < l.length) :
    ∃ b o f, A = some ⟨b, o, none⟩ ∧ b < B ∧ l[i]? = some f ∧ w.cell? ⟨b, o + i * 4, none⟩ = some (.bool f.t) ∧ w.cell? ⟨b, o + i * 4 + 1, none⟩ = some (.int .u8 (f.sz.toNat : Int)) ∧
    w.cell? ⟨b, o + i * 4 + 2, none⟩ = some (.int .u64 (f.n : Int)) ∧ w.cell? ⟨b, o + i * 4 + 3, none⟩ = some (.string f.s) ∧ f.n < 18446744073709551616 := by
  obtain ⟨b, o, e, hbB, hc⟩ := h (by rintro rfl; simp at hi)
  exact ⟨b, o, l[i], e, hbB, List.getElem?_eq_getElem hi, hc i _ (List.getElem?_eq_getElem hi)⟩
end Go.Proofs.Ytmcnhcbibcjgnaa
