/-
  Layer 6: the acts that came in ('OpV', 'OpsAt'), and the contract of light.
-/
import Derived.Test.YtamjkmelfpdhiaaDiskFi
namespace Go.Proofs.Ytamjkmelfpdhiaa
open Go.RowKit Go.Maps
set_option linter.unusedVariables false

/-- An act as it lies in memory: what is to be kept lies at the address A. -/
structure OpV where
  kind : Int
  at_ : Int
  b : UInt8
  A : Option Addr
  c : Nat
  keep : List Bool
def OpV.cs (o : OpV) : List Value := [.int .i64 o.kind, .int .i64 o.at_, .int .u8 (o.b.toNat : Int), .slice o.A o.keep.length o.c]
theorem OpV.cs_length (o : OpV) : o.cs.length = 4 := rfl
def opsC (l : List OpV) : List Value := l.flatMap OpV.cs
theorem opsC_get {l : List OpV} {i : Nat} {o : OpV} (h : l[i]? = some o) {j : Nat} {v : Value} (hv : o.cs[j]? = some v) : (opsC l)[i * 4 + j]? = some v := by
  have hj : j < 4 := (List.getElem?_eq_some_iff.1 hv).1
  rw [opsC, flat_get OpV.cs_length h j hj, hv]
structure OpsAt (w : World) (B : Nat) (A : Option Addr) (l : List OpV) : Prop where
  lies : LiesV w B A (opsC l)
  keeps : ∀ o ∈ l, LiesV w B o.A (o.keep.map Value.bool) ∧ o.keep.length ≤ o.c ∧ o.at_ ≤ 9223372036854775807
theorem OpsAt.keep {w w' : World} {B : Nat} {A : Option Addr} {l : List OpV} (h : OpsAt w B A l) (hk : ∀ p : Addr, p.block < B → w'.cell? p = w.cell? p) : OpsAt w' B A l :=
  ⟨h.lies.keep hk, fun o ho => ⟨(h.keeps o ho).1.keep hk, (h.keeps o ho).2⟩⟩
theorem OpsAt.below {w w' : World} {B : Nat} {A : Option Addr} {l : List OpV} (h : OpsAt w B A l) (hb : Below B w w') : OpsAt w' B A l := h.keep fun _ hp => hb.cell hp
/-- The four cells of an act. -/
theorem OpsAt.at_ {w : World} {B : Nat} {A : Option Addr} {l : List OpV} (h : OpsAt w B A l) {i : Nat} {o : OpV} (hi : l[i]? = some o) : ∃ b k, A = some ⟨b, k, none⟩ ∧ b < B ∧ w.rangeAt b (k + i * 4) o.cs := by
  obtain ⟨b, k, e, hb, hc⟩ := h.lies (by
    intro h0
    have := opsC_get hi (j := 0) rfl
    rw [h0] at this
    simp at this)
  refine ⟨b, k, e, hb, fun j v hj => ?_⟩
  rw [Nat.add_assoc]
  exact hc _ v (opsC_get hi hj)

def lightB (l : List OpV) : Bool := decide (l.length ≤ 80) && l.all fun o => decide (o.keep.length ≤ 100)

set_option maxRecDepth 100000 in
set_option maxHeartbeats 4000000 in
theorem light_any (w : World) (B : Nat) (A : Option Addr) (c : Nat) (l : List OpV) (h : OpsAt w B A l) (hc : l.length ≤ c) :
    Calls Try.prog 6 #[.slice A l.length c] w fun e w' => e = .returned (.bool (lightB l)) ∧ w' = w := by
  by_cases h80 : l.length ≤ 80
  · have HO := Lib.hid h
    have HL : Hid (lightB l = l.all fun o => decide (o.keep.length ≤ 100)) := by show _ = _; simp [lightB, h80]
    have h80' : (l.length : Int) ≤ 80 := by omega
    clear h
    generalize hn : l.length = n at *
    have Hn := Lib.hid hn
    clear hn
    go_enter Try.func6, Try.ntmps6
    go_wp2_with fail
    go_loop [3] (fun v => ∃ k : Nat, k ≤ n ∧ v = .int .i64 k ∧ Hid (∀ j o, j < k → l[j]? = some o → o.keep.length ≤ 100)) (fun v => n - (intOf v).toNat)
    case atStart => exact ⟨0, Nat.zero_le _, rfl, Lib.hid (by intro j o hj; omega)⟩
    case round =>
      obtain ⟨k, hkn, rfl, Hs⟩ := hrel
      by_cases hlt : k < n
      · obtain ⟨o, ho⟩ : ∃ o, l[k]? = some o := ⟨_, List.getElem?_eq_getElem (by rw [Hn.out]; omega)⟩
        obtain ⟨b, off, rfl, hb, hr⟩ := HO.out.at_ ho
        have c3 := hr 3 _ rfl
        have hlt' : (k : Int) < (n : Int) := by omega
        have hk0 : (0 : Int) ≤ (k : Int) := by omega
        clear hr
        generalize hm : o.keep.length = m at *
        have Hm := Lib.hid hm
        clear hm
        by_cases h100 : m ≤ 100
        · have h100' : (m : Int) ≤ 100 := by omega
          go_wp2_with fail
          go_round
          case rel =>
            refine ⟨k + 1, by omega, rfl, Lib.hid ?_⟩
            intro j o' hj ho'
            rcases Nat.lt_succ_iff_lt_or_eq.1 hj with hj | rfl
            · exact Hs.out j o' hj ho'
            · rw [ho] at ho'
              injection ho' with ho'
              subst ho'
              rw [Hm.out]
              exact h100
          case measure => show n - (k + 1) < n - k; omega
        · have h100' : (100 : Int) < (m : Int) := by omega
          have Hf : Hid (lightB l = false) := by
            show _ = _
            rw [HL.out]
            simp only [List.all_eq_false]
            exact ⟨o, List.mem_of_getElem? ho, by rw [Hm.out]; simp; omega⟩
          go_wp2_with fail
          go_ret
          exact ⟨by rw [Hf.out]; rfl, rfl⟩
      · obtain rfl : k = n := by omega
        have Ht : Hid (lightB l = true) := by
          show _ = _
          rw [HL.out, List.all_eq_true]
          intro o ho
          obtain ⟨j, hj⟩ := List.mem_iff_getElem?.1 ho
          have := (List.getElem?_eq_some_iff.1 hj).1
          simpa using Hs.out j o (by rw [Hn.out] at this; exact this) hj
        go_wp2_with fail
        go_ret
        exact ⟨by rw [Ht.out]; rfl, rfl⟩
  · have h80' : (80 : Int) < (l.length : Int) := by omega
    have HL : Hid (lightB l = false) := by show _ = _; simp [lightB, h80]
    clear h
    go_enter Try.func6, Try.ntmps6
    go_wp2_with fail
    go_ret
    exact ⟨by rw [HL.out]; rfl, rfl⟩
end Go.Proofs.Ytamjkmelfpdhiaa
