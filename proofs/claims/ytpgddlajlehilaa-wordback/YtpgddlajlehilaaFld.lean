/-
  Fields of the law WordBack: what they are as data, their bytes, and where they lie. No program is named here.
-/
import Derived.Test.YtpgddlajlehilaaPad
import Derived.Test.YtpgddlajlehilaaUnpad
namespace Go.Proofs.Ytpgddlajlehilaa
open Go.RowKit
set_option linter.unusedVariables false

structure Fld where
  t : Bool
  sz : UInt8
  n : Nat
  s : ByteArray

def Fld.k (f : Fld) : Nat := 1 + f.sz.toNat % 8
def Fld.ok (f : Fld) : Prop := f.t = true → f.s.size + 1 ≤ f.k
def Fld.enc (f : Fld) : List UInt8 := if f.t = true then padB f.s.data.toList f.k else putB f.n f.k
def encs (l : List Fld) : List UInt8 := l.flatMap Fld.enc

theorem Fld.k_pos (f : Fld) : 1 ≤ f.k ∧ f.k ≤ 8 := by unfold Fld.k; omega
theorem padB_length {s : List UInt8} {k : Nat} (h : s.length + 1 ≤ k) : (padB s k).length = k := fill_length (by simpa using h)
theorem Fld.enc_length {f : Fld} (h : f.ok) : f.enc.length = f.k := by
  unfold Fld.enc
  split
  · rename_i ht
    exact padB_length (by have := h ht; rw [Lib.size_eq] at this; exact this)
  · exact putB_length _ _
theorem encs_snoc {l : List Fld} {i : Nat} {f : Fld} (h : l[i]? = some f) : encs (l.take (i + 1)) = encs (l.take i) ++ f.enc := by
  obtain ⟨hi, rfl⟩ := List.getElem?_eq_some_iff.1 h
  unfold encs
  rw [List.take_succ_eq_append_getElem hi, List.flatMap_append]
  simp
theorem encs_drop {l : List Fld} {i : Nat} {f : Fld} (h : l[i]? = some f) : encs (l.drop i) = f.enc ++ encs (l.drop (i + 1)) := by
  obtain ⟨hi, rfl⟩ := List.getElem?_eq_some_iff.1 h
  unfold encs
  rw [List.drop_eq_getElem_cons hi, List.flatMap_cons]
theorem encs_length_le : ∀ (l : List Fld), (∀ f ∈ l, f.ok) → (encs l).length ≤ 8 * l.length
  | [], _ => by simp [encs]
  | f :: l, h => by
    have h1 := encs_length_le l (fun g hg => h g (by simp [hg]))
    have h2 := Fld.enc_length (h f (by simp))
    have h3 := f.k_pos
    have e : encs (f :: l) = f.enc ++ encs l := by simp [encs]
    rw [e, List.length_append, List.length_cons]
    omega
theorem unpad_pad {s : List UInt8} {k : Nat} (h : s.length + 1 ≤ k) (hk : k ≤ 256) : unpadO (padB s k) = some s := by
  unfold padB fill
  rw [List.cons_append]
  have hx : (UInt8.ofNat s.length).toNat = s.length := by rw [toNat_ofNat]; omega
  have hz : ∀ m, zeros (List.replicate m 0) = true := fun m => by
    unfold zeros
    rw [List.all_eq_true]
    intro x hx
    rw [(List.mem_replicate.1 hx).2]
    rfl
  have e : ∀ (x : UInt8) (ys : List UInt8), unpadO (x :: ys) = if x.toNat ≤ ys.length ∧ zeros (ys.drop x.toNat) = true then some (ys.take x.toNat) else none := fun _ _ => rfl
  rw [e, hx, List.drop_left' rfl, List.take_left' rfl, if_pos ⟨by simp, hz _⟩]

/-- The fields l lie at the address A, four cells each, in a block below B. -/
def Flds (w : World) (B : Nat) (A : Option Addr) (l : List Fld) : Prop :=
  l ≠ [] → ∃ b o, A = some ⟨b, o, none⟩ ∧ b < B ∧ ∀ (i : Nat) (f : Fld), l[i]? = some f →
    w.cell? ⟨b, o + i * 4, none⟩ = some (.bool f.t) ∧ w.cell? ⟨b, o + i * 4 + 1, none⟩ = some (.int .u8 (f.sz.toNat : Int)) ∧
    w.cell? ⟨b, o + i * 4 + 2, none⟩ = some (.int .u64 (f.n : Int)) ∧ w.cell? ⟨b, o + i * 4 + 3, none⟩ = some (.string f.s) ∧ f.n < 18446744073709551616
theorem Flds.below {w w' : World} {B : Nat} {A : Option Addr} {l : List Fld} (h : Flds w B A l) (hb : Below B w w') : Flds w' B A l := fun hl => by
  obtain ⟨b, o, e, hbB, hc⟩ := h hl
  refine ⟨b, o, e, hbB, fun i f hi => ?_⟩
  obtain ⟨c0, c1, c2, c3, h4⟩ := hc i f hi
  exact ⟨(hb.cell hbB).trans c0, (hb.cell hbB).trans c1, (hb.cell hbB).trans c2, (hb.cell hbB).trans c3, h4⟩
theorem Flds.at_ {w : World} {B : Nat} {A : Option Addr} {l : List Fld} (h : Flds w B A l) {i : Nat} (hi : i < l.length) :
    ∃ b o f, A = some ⟨b, o, none⟩ ∧ b < B ∧ l[i]? = some f ∧ w.cell? ⟨b, o + i * 4, none⟩ = some (.bool f.t) ∧ w.cell? ⟨b, o + i * 4 + 1, none⟩ = some (.int .u8 (f.sz.toNat : Int)) ∧
    w.cell? ⟨b, o + i * 4 + 2, none⟩ = some (.int .u64 (f.n : Int)) ∧ w.cell? ⟨b, o + i * 4 + 3, none⟩ = some (.string f.s) ∧ f.n < 18446744073709551616 := by
  obtain ⟨b, o, e, hbB, hc⟩ := h (by rintro rfl; simp at hi)
  exact ⟨b, o, l[i], e, hbB, List.getElem?_eq_getElem hi, hc i _ (List.getElem?_eq_getElem hi)⟩
end Go.Proofs.Ytpgddlajlehilaa
