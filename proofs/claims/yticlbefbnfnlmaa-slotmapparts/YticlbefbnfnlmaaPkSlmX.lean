/-
  Layer 10: the contract of the laws' works.
  Layer 10: the walk of SlotmapParts.
-/
import Derived.Test.YticlbefbnfnlmaaPkSlmG
import Derived.Test.YticlbefbnfnlmaaPkSlmI
import Derived.Test.YticlbefbnfnlmaaPkSlmE
import Derived.Test.YticlbefbnfnlmaaPkSlmT
import Derived.Test.YticlbefbnfnlmaaPkSlmP
namespace Go.Proofs.Yticlbefbnfnlmaa
open Go.RowKit
set_option linter.unusedVariables false
set_option linter.unusedSimpArgs false

theorem Try.built10 : Try.prog.built 42 [] = some zeroSec.cs.toArray := by kernel_rfl
theorem below_but10 {N g : Nat} {w wi w' : World} (hB : Below N w wi) (hN : N ≤ wi.heap.size) (hb : But [g] wi.heap.size wi w') (hg : N ≤ g) : Below N w w' :=
  hB.trans ((hb.less hN).below (fun k hk => by simp only [List.mem_singleton] at hk; omega))
theorem MapAt.but {w w' : World} {b g c g' B : Nat} {ss : List UInt8} (h : MapAt w b g c ss) (hb : But [g'] B w w') (h1 : b < B) (h2 : g < B) (h3 : b ≠ g') (h4 : g ≠ g') : MapAt w' b g c ss :=
  ⟨h.ptr.but hb h1 (by simpa using h3), own_but h.row hb (fun k e => by cases e; exact ⟨h2, by simpa using h4⟩), h.pos, h.le, h.ok⟩

def m0 : List UInt8 := List.replicate 9 0
def m1 : List UInt8 := [1, 1, 1, 0, 0, 0, 0, 0, 0]
def m2 : List UInt8 := [1, 2, 1, 0, 0, 0, 0, 0, 0]
def m3 : List UInt8 := [0, 2, 1, 0, 0, 0, 0, 0, 0]
theorem w10a : takeC m0 3 = 0 ∧ takeL m0 3 = [0, 1, 2] ∧ takeM m0 3 = m1 := by decide
theorem w10b : takeC m1 7 = 6 ∧ takeL m1 7 = [] ∧ takeM m1 7 = m1 := by decide
theorem w10c : setC10 m1 1 2 = 0 ∧ setM10 m1 1 2 = m2 := by decide
theorem w10d : setC10 m2 9 0 = 2 ∧ setM10 m2 9 0 = m2 := by decide
theorem w10e : setC10 m2 0 0 = 0 ∧ setM10 m2 0 0 = m3 := by decide
theorem w10f : getS10 m2 1 = 2 ∧ firstS m2 0 = 3 ∧ lastS m2 1 = 2 ∧ (ofS m2 1).length = 2 ∧ getS10 m2 0 = 1 ∧ getS10 m3 (-1) = -1 := by decide
theorem w10g : readS10 9 (putS10 m2) = some m2 := read_put (ss := m2) (by intro x hx; revert x; decide) (by decide)

set_option maxRecDepth 100000 in
set_option maxHeartbeats 4000000 in
theorem works10_any (w : World) : Calls Try.prog 6 #[] w fun e w' => e = .returned (.bool true) ∧ Below w.heap.size w w' := by
  go_enter Try.func6, Try.ntmps6
  generalize hN : w.heap.size = N at *
  go_wp2_with fail
  refine (snew_any w 9).mono ?_
  rintro e w1 hv
  unfold NewV at hv
  rw [if_pos (by decide)] at hv
  obtain ⟨b, g, c, rfl, hm1, hb, hg, hb1⟩ := hv
  rw [hN] at hb hg hb1
  have HM1 : Hid (MapAt w1 b g c m0) := hm1
  have HB1 := Lib.hid hb1
  have HZ1 : Hid (N ≤ w1.heap.size) := by have := hm1.blt; show _ ≤ _; omega
  have hbg := hm1.ne
  clear hm1 hb1
  go_wp2_with fail
  refine (snew_any w1 0).mono ?_
  rintro e w2 hv
  unfold NewV at hv
  rw [if_neg (by decide)] at hv
  obtain ⟨rfl, hv2⟩ := hv
  subst hv2
  go_wp2_with fail
  refine (stake_any w2 b g c m0 HM1.out 3 (by decide)).mono ?_
  rintro e w3 ⟨vl, rfl, hl, hm3, hb3⟩
  rw [w10a.2.1] at hl
  rw [w10a.2.2] at hm3
  rw [w10a.1]
  have HM3 := Lib.hid hm3
  have HB3 := Lib.hid (below_but10 HB1.out HZ1.out hb3 hg)
  have HZ3 : Hid (N ≤ w3.heap.size) := Nat.le_trans HZ1.out hb3.size
  obtain ⟨gl, cl, rfl, _, _, hgl, _⟩ := own_form hl (by decide)
  have HL3 := Lib.hid hl
  have hgl' : N ≤ gl := Nat.le_trans HZ1.out hgl
  have hgg : gl ≠ g := by have := HM1.out.glt; omega
  clear hl hm3 hb3 HM1 HB1 HZ1
  go_wp2_with fail
  refine (stake_any w3 b g c m1 HM3.out 7 (by decide)).mono ?_
  rintro e w4 ⟨vk, rfl, hl, hm4, hb4⟩
  rw [w10b.2.2] at hm4
  rw [w10b.1]
  have HL4 : Hid (w4.ownsRow w2.heap.size 3 1 (.slice (some ⟨gl, 0, none⟩) 3 cl) 3 (nats [0, 1, 2])) := own_but HL3.out hb4 (fun k e => by cases e; exact ⟨own_lt HL3.out rfl, by simpa using hgg⟩)
  have HM4 := Lib.hid hm4
  have HB4 := Lib.hid (below_but10 HB3.out HZ3.out hb4 hg)
  have HZ4 : Hid (N ≤ w4.heap.size) := Nat.le_trans HZ3.out hb4.size
  clear hl hm4 hb4 HM3 HB3 HZ3 HL3
  go_wp2_with fail
  refine (sset_any w4 b g c m1 HM4.out 1 2).mono ?_
  rintro e w5 ⟨rfl, hm5, hg5, hz5⟩
  rw [w10c.2] at hm5
  rw [w10c.1]
  have HM5 := Lib.hid hm5
  have HL5 : Hid (w5.ownsRow w2.heap.size 3 1 (.slice (some ⟨gl, 0, none⟩) 3 cl) 3 (nats [0, 1, 2])) := HL4.out.kept hg5 (.inr (fun e => hgg (Option.some.inj e)))
  have HZ5 : Hid (N ≤ w5.heap.size) := by have := HZ4.out; show _ ≤ _; omega
  have HB5 := Lib.hid (HB4.out.grown hg5 HZ4.out (fun k e => by injection e with e; omega))
  clear hm5 hg5 hz5 HM4 HL4 HZ4 HB4
  go_wp2_with fail
  refine (sset_any w5 b g c m2 HM5.out 9 0).mono ?_
  rintro e w6 ⟨rfl, hm6, hg6, hz6⟩
  rw [w10d.2] at hm6
  rw [w10d.1]
  have HM6 := Lib.hid hm6
  have HL6 : Hid (w6.ownsRow w2.heap.size 3 1 (.slice (some ⟨gl, 0, none⟩) 3 cl) 3 (nats [0, 1, 2])) := HL5.out.kept hg6 (.inr (fun e => hgg (Option.some.inj e)))
  have HZ6 : Hid (N ≤ w6.heap.size) := by have := HZ5.out; show _ ≤ _; omega
  have HB6 := Lib.hid (HB5.out.grown hg6 HZ5.out (fun k e => by injection e with e; omega))
  clear hm6 hg6 hz6 HM5 HL5 HZ5 HB5
  go_wp2_with fail
  refine (sput_any w6 b g c m2 HM6.out).mono ?_
  rintro e w7 ⟨rfl, hb7⟩
  have HM7 := Lib.hid (HM6.out.later hb7)
  have HL7 : Hid (w7.ownsRow w2.heap.size 3 1 (.slice (some ⟨gl, 0, none⟩) 3 cl) 3 (nats [0, 1, 2])) := own_below HL6.out hb7
  have HZ7 : Hid (N ≤ w7.heap.size) := Nat.le_trans HZ6.out hb7.size
  have HB7 := Lib.hid (HB6.out.trans (hb7.mono HZ6.out))
  clear hb7 HM6 HL6 HZ6 HB6
  go_wp2_with fail
  refine (sread_any w7 9 (putS10 m2)).mono ?_
  rintro e w8 hv
  unfold ReadV at hv
  rw [if_pos (by decide), show (9 : Int).toNat = 9 from rfl, w10g] at hv
  obtain ⟨b2, g2, c2, rfl, hn8, hnb, hng, hb8⟩ := hv
  have HN8 := Lib.hid hn8
  have hgb2 : g ≠ b2 := by have := HM7.out.glt; omega
  have hgg2 : g ≠ g2 := by have := HM7.out.glt; omega
  have hNb2 : N ≤ b2 := Nat.le_trans HZ7.out hnb
  have HM8 := Lib.hid (HM7.out.later hb8)
  have HL8 : Hid (w8.ownsRow w2.heap.size 3 1 (.slice (some ⟨gl, 0, none⟩) 3 cl) 3 (nats [0, 1, 2])) := own_below HL7.out hb8
  have HZ8 : Hid (N ≤ w8.heap.size) := Nat.le_trans HZ7.out hb8.size
  have HB8 := Lib.hid (HB7.out.trans (hb8.mono HZ7.out))
  clear hn8 hnb hng
  clear hb8 HM7 HL7 HZ7 HB7
  go_wp2_with ((with_reducible refine at_build 42 ?_); refine wpList_build_to rfl 42 _ rfl zeroSec.cs (by rw [Array.toList_map]; exact Try.built10) ?_)
  go_wp2_with fail
  refine (sread_any w8 9 zeroSec).mono ?_
  rintro e w9 hv
  unfold ReadV at hv
  rw [if_pos (by decide), show (9 : Int).toNat = 9 from rfl, read_zero] at hv
  obtain ⟨rfl, hb9⟩ := hv
  have HM9 := Lib.hid (HM8.out.later hb9)
  have HL9 : Hid (w9.ownsRow w2.heap.size 3 1 (.slice (some ⟨gl, 0, none⟩) 3 cl) 3 (nats [0, 1, 2])) := own_below HL8.out hb9
  have HZ9 : Hid (N ≤ w9.heap.size) := Nat.le_trans HZ8.out hb9.size
  have HB9 := Lib.hid (HB8.out.trans (hb9.mono HZ8.out))
  have HN9 := Lib.hid (HN8.out.later hb9)
  clear hb9 HM8 HL8 HZ8 HB8 HN8
  go_wp2_with fail
  refine (scopy_any w9 b g c m2 HM9.out).mono ?_
  rintro e w10 ⟨b3, g3, c3, rfl, hk10, hkb, hkg, hb10⟩
  have HK10 := Lib.hid hk10
  have hgb3 : g ≠ b3 := by have := HM9.out.glt; omega
  have hgg3 : g ≠ g3 := by have := HM9.out.glt; omega
  have HM10 := Lib.hid (HM9.out.later hb10)
  have HL10 : Hid (w10.ownsRow w2.heap.size 3 1 (.slice (some ⟨gl, 0, none⟩) 3 cl) 3 (nats [0, 1, 2])) := own_below HL9.out hb10
  have HZ10 : Hid (N ≤ w10.heap.size) := Nat.le_trans HZ9.out hb10.size
  have HB10 := Lib.hid (HB9.out.trans (hb10.mono HZ9.out))
  have HN10 := Lib.hid (HN9.out.later hb10)
  clear hk10 hkb hkg
  clear hb10 HM9 HL9 HZ9 HB9 HN9
  go_wp2_with fail
  refine (sset_any w10 b g c m2 HM10.out 0 0).mono ?_
  rintro e w11 ⟨rfl, hm11, hg11, hz11⟩
  rw [w10e.2] at hm11
  rw [w10e.1]
  have HM11 := Lib.hid hm11
  have HL11 : Hid (w11.ownsRow w2.heap.size 3 1 (.slice (some ⟨gl, 0, none⟩) 3 cl) 3 (nats [0, 1, 2])) := HL10.out.kept hg11 (.inr (fun e => hgg (Option.some.inj e)))
  have HZ11 : Hid (N ≤ w11.heap.size) := by have := HZ10.out; show _ ≤ _; omega
  have HB11 := Lib.hid (HB10.out.grown hg11 HZ10.out (fun k e => by injection e with e; omega))
  have HN11 := Lib.hid (HN10.out.keep hg11 (fun e => by injection e with e; omega) (fun e => by injection e with e; omega))
  have HK11 := Lib.hid (HK10.out.keep hg11 (fun e => by injection e with e; omega) (fun e => by injection e with e; omega))
  clear hm11 hg11 hz11 HM10 HL10 HZ10 HB10 HN10 HK10
  have hcl : w11.cell? ⟨gl, 2, none⟩ = some (.int .i64 2) := by
    have h1 := HL11.out.cells (g := gl) rfl 2 (.int .i64 2) rfl
    rwa [Addr.add_lit, Nat.zero_add] at h1
  clear HL11
  go_wp2_with fail
  refine (sget_any w11 b2 g2 c2 m2 HN11.out 1).mono ?_
  rintro e wx ⟨rfl, rfl⟩
  rw [w10f.1]
  go_wp2_with fail
  refine (sfirst_any wx b2 g2 c2 m2 HN11.out 0).mono ?_
  rintro e w12 ⟨rfl, hb12⟩
  rw [w10f.2.1]
  have HN12 := Lib.hid (HN11.out.later hb12)
  have HM12 := Lib.hid (HM11.out.later hb12)
  have HK12 := Lib.hid (HK11.out.later hb12)
  have HZ12 : Hid (N ≤ w12.heap.size) := Nat.le_trans HZ11.out hb12.size
  have HB12 := Lib.hid (HB11.out.trans (hb12.mono HZ11.out))
  clear hb12 HN11 HM11 HK11 HZ11 HB11
  go_wp2_with fail
  refine (slast_any w12 b2 g2 c2 m2 HN12.out 1).mono ?_
  rintro e w13 ⟨rfl, hb13⟩
  rw [w10f.2.2.1]
  have HN13 := Lib.hid (HN12.out.later hb13)
  have HM13 := Lib.hid (HM12.out.later hb13)
  have HK13 := Lib.hid (HK12.out.later hb13)
  have HZ13 : Hid (N ≤ w13.heap.size) := Nat.le_trans HZ12.out hb13.size
  have HB13 := Lib.hid (HB12.out.trans (hb13.mono HZ12.out))
  clear hb13 HN12 HM12 HK12 HZ12 HB12
  go_wp2_with fail
  refine (scount_any w13 b2 g2 c2 m2 HN13.out 1).mono ?_
  rintro e w14 ⟨rfl, hb14⟩
  rw [w10f.2.2.2.1]
  have HN14 := Lib.hid (HN13.out.later hb14)
  have HM14 := Lib.hid (HM13.out.later hb14)
  have HK14 := Lib.hid (HK13.out.later hb14)
  have HZ14 : Hid (N ≤ w14.heap.size) := Nat.le_trans HZ13.out hb14.size
  have HB14 := Lib.hid (HB13.out.trans (hb14.mono HZ13.out))
  clear hb14 HN13 HM13 HK13 HZ13 HB13
  go_wp2_with fail
  refine (sget_any w14 b3 g3 c3 m2 HK14.out 0).mono ?_
  rintro e wy ⟨rfl, rfl⟩
  rw [w10f.2.2.2.2.1]
  go_wp2_with fail
  refine (sget_any wy b g c m3 HM14.out (-1)).mono ?_
  rintro e wz ⟨rfl, rfl⟩
  rw [w10f.2.2.2.2.2]
  go_wp2_with fail
  refine (slen_any wz b g c m3 HM14.out).mono ?_
  rintro e wu ⟨rfl, rfl⟩
  rw [show (m3.length : Int) = 9 from rfl]
  go_wp2_with fail
  go_ret
  exact ⟨rfl, by first | exact HB14.out | (rw [hN]; exact HB14.out)⟩
end Go.Proofs.Yticlbefbnfnlmaa
namespace Go.Proofs.Yticlbefbnfnlmaa
open Go.RowKit
set_option linter.unusedVariables false
set_option linter.unusedSimpArgs false

/-- Where the bytes of an argument lie, in each world that keeps what lay below. -/
theorem lies_at10 {w : World} {B : Nat} {A : Option Addr} {xs : List UInt8} (h : Lies w B A xs) {i : Nat} {x : UInt8} (hx : xs[i]? = some x) : ∃ b o, A = some ⟨b, o, none⟩ ∧ b < B ∧ w.cell? ⟨b, o + i, none⟩ = some (.int .u8 (x.toNat : Int)) := by
  obtain ⟨b, o, y, e, hb, hy, hc⟩ := h.at_ (List.getElem?_eq_some_iff.1 hx).1
  rw [hx] at hy
  injection hy with hy
  subst hy
  exact ⟨b, o, e, hb, hc⟩

theorem nums_snoc (l : List UInt8) (x : UInt8) : nums (l ++ [x]) = nums l ++ [.int .i64 (x.toNat : Int)] := by simp [nums]
set_option maxRecDepth 100000 in
set_option maxHeartbeats 4000000 in
theorem parts10_any (w : World) (B : Nat) (A : Option Addr) (len cap : Nat) (xs : List UInt8) (n : Int) (h : Lies w B A xs) (hl : len = xs.length) (hB : B ≤ w.heap.size) (hn64 : n ≤ 9223372036854775807) :
    Calls Try.prog 5 #[.slice A len cap, .int .i64 n] w fun e w' => e = .returned (.bool true) ∧ Below w.heap.size w w' := by
  have Hh := Lib.hid h
  have Hlen := Lib.hid hl
  clear h hl
  by_cases hbad : len < 1 ∨ 200 < len
  · go_enter Try.func5, Try.ntmps5
    rcases hbad with hb | hb
    · go_wp2_with fail
      refine (works10_any w).mono ?_
      rintro e w1 ⟨rfl, hb1⟩
      go_wp2_with fail
      go_ret
      exact ⟨rfl, hb1⟩
    · have h1 : ¬ len < 1 := by omega
      go_wp2_with fail
      refine (works10_any w).mono ?_
      rintro e w1 ⟨rfl, hb1⟩
      go_wp2_with fail
      go_ret
      exact ⟨rfl, hb1⟩
  · have h1 : 1 ≤ len := by omega
    have h2 : len ≤ 200 := by omega
    clear hbad
    have Hw := Lib.hid (Below.refl w.heap.size w)
    obtain ⟨N, hN⟩ : ∃ N, w.heap.size = N := ⟨_, rfl⟩
    go_enter Try.func5, Try.ntmps5
    go_wp2_with fail
    refine (snew_any w (len : Int)).mono ?_
    rintro e w1 hv
    unfold NewV at hv
    rw [if_pos (by omega), Int.toNat_natCast] at hv
    obtain ⟨b, g, c, rfl, hm1, hb, hg, hb1⟩ := hv
    rw [hN] at hb hg hb1 hB
    have HM : Hid (MapAt w1 b g c (lay10 xs 0)) := by rw [lay10_zero, ← Hlen.out]; exact hm1
    have HB := Lib.hid hb1
    have HZ : Hid (N ≤ w1.heap.size) := by have := hm1.blt; show _ ≤ _; omega
    have HR : Hid (w1.ownsRow N 3 1 (.slice none 0 0) 0 (nums (modS (xs.take 0)))) := World.ownsRow_nil _ _ _ _
    clear hm1 hb1
    go_wp2_with fail
    go_loopw [7, 8] (fun v7 v8 W => ∃ k : Nat, k ≤ len ∧ v8 = .int .i64 k ∧ Hid (MapAt W b g c (lay10 xs k)) ∧ Hid (W.ownsRow N 3 1 v7 k (nums (modS (xs.take k)))) ∧ Hid (Below N w W) ∧ Hid (N ≤ W.heap.size)) (fun _ v _ => len - (intOf v).toNat)
    case atStart => exact ⟨0, Nat.zero_le _, rfl, HM, HR, HB, HZ⟩
    case round =>
      obtain ⟨k, hk, rfl, HM1, HR1, HB1, HZ1⟩ := hrel
      clear HM HR HB HZ
      by_cases hlt : k < len
      · have hlt' : (k : Int) < (len : Int) := by omega
        obtain ⟨x, hx⟩ : ∃ x, xs[k]? = some x := ⟨_, List.getElem?_eq_getElem (by rw [← Hlen.out]; exact hlt)⟩
        obtain ⟨p, o, hA, hpB, hc1⟩ := lies_at10 (Hh.out.below (HB1.out.mono hB)) hx
        subst hA
        have hx256 := x.toNat_lt
        have HL := Lib.hid (lay10_set hx)
        have Hmt := Lib.hid (modS_take hx)
        have Hm3 := Lib.hid (mod3_nat x)
        clear hx
        obtain ⟨y, hy⟩ : ∃ y, x.toNat = y := ⟨_, rfl⟩
        obtain ⟨z, hz⟩ : ∃ z, y % 3 = z := ⟨_, rfl⟩
        rw [hy] at hc1 hx256 HL Hm3
        rw [hz] at HL Hm3
        have d1 : (y : Int) % 3 = (z : Int) := by omega
        have hz3 : z < 3 := by omega
        clear hy hz
        go_wp2_with fail
        refine (sset_any wr b g c _ HM1.out (k : Int) (z : Int)).mono ?_
        rintro e w2 ⟨rfl, hm2, hg2, hs2⟩
        rw [HL.out.1] at hm2
        rw [HL.out.2]
        have hc2 : w2.cell? ⟨p, o + k, none⟩ = some (.int .u8 (y : Int)) := by
          have : w2.heap[p]? = wr.heap[p]? := hg2.block p (by have := HZ1.out; omega) (fun e => by injection e with e; omega)
          rw [World.cell?_of_block this]
          exact hc1
        have hz1 := HZ1.out
        have hr2 : w2.ownsRow N 3 1 u7 k (nums (modS (xs.take k))) := HR1.out.kept hg2 (by
          cases hq : u7.ownBlock with
          | none => exact .inl rfl
          | some j => exact .inr (fun e => own_apart (own_rebase (base' := 0) HR1.out (fun _ _ => Nat.zero_le _)) HM1.out.row (by decide) hq e.symm))
        have hM2 := Lib.hid hm2
        have hB2 := Lib.hid (HB1.out.grown hg2 hz1 (fun k e => by injection e with e; omega))
        have hz2 : N ≤ w2.heap.size := by omega
        clear hm2 hg2 hs2 HM1 HR1 HB1 HZ1 HL hc1 hz1
        have ho1 := hr2.alloc (.cells #[.int .i64 (z : Int)] 3)
        have rl : RowV (w2.alloc (.cells #[.int .i64 (z : Int)] 3)) w2.heap.size 3 [.int .i64 (z : Int)] := RowV.new w2 3 _
        have hza : N ≤ (w2.alloc (.cells #[.int .i64 (z : Int)] 3)).heap.size := by simp; omega
        go_wp2_with (at_builtin; refine wpList_append_one rfl _ _ 28 rfl N 3 Try.underlying28 Try.infoI10 rfl (by decide) _ _ _ rfl ho1 w2.heap.size [.int .i64 (z : Int)] rfl rl rfl (by simp [Value.oneCell']) (by unfold maxLen; omega) (by omega) hza ?_)
        intro v' w3 ho3 hg3 _
        have e3 : nums (modS (xs.take k)) ++ [Value.int .i64 (z : Int)] = nums (modS (xs.take (k + 1))) := by
          rw [Hmt.out, nums_snoc, Hm3.out]
        rw [e3] at ho3
        have HR3 := Lib.hid ho3
        have HM3 := Lib.hid ((hM2.out.later ((Below.refl _ w2).alloc (Nat.le_refl _) (.cells #[.int .i64 (z : Int)] 3))).keep hg3 (fun e => by
            have h5 : One (w2.alloc (.cells #[.int .i64 (z : Int)] 3)) b _ 51 := hM2.out.ptr.alloc _
            exact own_row_apart (t := 51) (cs := [_]) ho1 h5 (by decide) e) (fun e => own_apart (own_rebase (base' := 0) ho1 (fun _ _ => Nat.zero_le _)) (hM2.out.row.alloc _) (by decide) e rfl))
        have HB3 := Lib.hid ((hB2.out.alloc hz2 (.cells #[.int .i64 (z : Int)] 3)).grown hg3 (by omega) (own_ge ho1))
        have HZ3 : Hid (N ≤ w3.heap.size) := by have := hg3.size; show _ ≤ _; omega
        clear ho1 rl hza ho3 hg3 e3 hr2 hM2 hB2 hz2 hc2 d1 Hmt Hm3
        go_wp2_with fail
        go_roundw
        case rel => exact ⟨k + 1, by omega, by go_num, HM3, HR3, HB3, HZ3⟩
        case measure => simp [intOf]; omega
      · obtain rfl : k = len := by omega
        have HM2 : Hid (MapAt wr b g c (modS xs)) := by rw [← lay10_all, ← Hlen.out]; exact HM1.out
        have HR2 : Hid (NumsAt wr u7 (modS xs)) := by
          have := HR1.out
          rw [List.take_of_length_le (by rw [Hlen.out]; exact Nat.le_refl _)] at this
          show World.ownsRow _ _ _ _ _ _ _
          rw [modS_length, ← Hlen.out]
          exact own_rebase (base' := 0) this (fun _ _ => Nat.zero_le _)
        have hok := modS_ok xs
        obtain ⟨ss, hss⟩ : ∃ ss, modS xs = ss := ⟨_, rfl⟩
        have Hsl : Hid (ss.length = k) := by show _ = _; rw [← hss, modS_length, Hlen.out]
        rw [hss] at HM2 HR2 hok
        clear hss HM1 HR1 hk hlt
        obtain ⟨gr, cr, hv7, hcr, _⟩ := HR2.out.form (by rw [Hsl.out]; omega)
        rw [Hsl.out] at hv7 hcr
        subst hv7
        have Hok := Lib.hid hok
        have Hsum : Hid (((ofS ss 0).length + (ofS ss 1).length + (ofS ss 2).length = k)) := by show _ = _; rw [← Hsl.out]; exact three10 hok ss.length
        have H3 : Hid ((ofS ss 3).length = 0) := by show _ = _; rw [ofS, none10 hok (by omega)]; rfl
        have H4 : Hid (firstS ss (-1) = -1) := by show _ = _; exact firstS_nil (by rw [ofS, none10 hok (by omega)]; rfl)
        clear hok
        obtain ⟨f0, hf0⟩ : ∃ f0, (ofS ss 0).length = f0 := ⟨_, rfl⟩
        obtain ⟨f1, hf1⟩ : ∃ f1, (ofS ss 1).length = f1 := ⟨_, rfl⟩
        obtain ⟨f2, hf2⟩ : ∃ f2, (ofS ss 2).length = f2 := ⟨_, rfl⟩
        have F0 := Lib.hid hf0
        have F1 := Lib.hid hf1
        have F2 := Lib.hid hf2
        have hsum := Hsum.out
        rw [hf0, hf1, hf2] at hsum
        have d1 : (f0 : Int) + (f1 : Int) + (f2 : Int) = (k : Int) := by omega
        have d2 : f0 ≤ 200 := by omega
        have d3 : f1 ≤ 200 := by omega
        have d4 : f2 ≤ 200 := by omega
        clear hf0 hf1 hf2 hsum Hsum
        have HM20 := HM2
        have HR20 := HR2
        have HZ20 := HZ1
        have HB20 := HB1
        clear HM2 HR2 HZ1 HB1
        obtain ⟨w20, hw20⟩ : ∃ w20, w20 = wr := ⟨_, rfl⟩
        rw [← hw20] at HM20 HR20 HZ20 HB20 ⊢
        clear hw20
        go_wp2_with fail
        refine (scount_any w20 b g c ss HM20.out 0).mono ?_
        rintro e w21 ⟨rfl, hb21⟩
        rw [F0.out]
        have HM21 := Lib.hid (HM20.out.later hb21)
        have HR21 := Lib.hid (HR20.out.later hb21)
        have HZ21 : Hid (N ≤ w21.heap.size) := Nat.le_trans HZ20.out hb21.size
        have HB21 := Lib.hid (HB20.out.trans (hb21.mono HZ20.out))
        clear hb21 HM20 HR20 HZ20 HB20
        go_wp2_with fail
        refine (scount_any w21 b g c ss HM21.out 1).mono ?_
        rintro e w22 ⟨rfl, hb22⟩
        rw [F1.out]
        have HM22 := Lib.hid (HM21.out.later hb22)
        have HR22 := Lib.hid (HR21.out.later hb22)
        have HZ22 : Hid (N ≤ w22.heap.size) := Nat.le_trans HZ21.out hb22.size
        have HB22 := Lib.hid (HB21.out.trans (hb22.mono HZ21.out))
        clear hb22 HM21 HR21 HZ21 HB21
        go_wp2_with fail
        refine (scount_any w22 b g c ss HM22.out 2).mono ?_
        rintro e w23 ⟨rfl, hb23⟩
        rw [F2.out]
        have HM23 := Lib.hid (HM22.out.later hb23)
        have HR23 := Lib.hid (HR22.out.later hb23)
        have HZ23 : Hid (N ≤ w23.heap.size) := Nat.le_trans HZ22.out hb23.size
        have HB23 := Lib.hid (HB22.out.trans (hb23.mono HZ22.out))
        clear hb23 HM22 HR22 HZ22 HB22
        go_wp2_with fail
        refine (scount_any w23 b g c ss HM23.out 3).mono ?_
        rintro e w24 ⟨rfl, hb24⟩
        rw [H3.out]
        have HM24 := Lib.hid (HM23.out.later hb24)
        have HR24 := Lib.hid (HR23.out.later hb24)
        have HZ24 : Hid (N ≤ w24.heap.size) := Nat.le_trans HZ23.out hb24.size
        have HB24 := Lib.hid (HB23.out.trans (hb24.mono HZ23.out))
        clear hb24 HM23 HR23 HZ23 HB23
        go_wp2_with fail
        refine (sfirst_any w24 b g c ss HM24.out (-1)).mono ?_
        rintro e w25 ⟨rfl, hb25⟩
        rw [H4.out]
        have HM25 := Lib.hid (HM24.out.later hb25)
        have HR25 := Lib.hid (HR24.out.later hb25)
        have HZ25 : Hid (N ≤ w25.heap.size) := Nat.le_trans HZ24.out hb25.size
        have HB25 := Lib.hid (HB24.out.trans (hb25.mono HZ24.out))
        clear hb25 HM24 HR24 HZ24 HB24
        go_wp2_with fail
        refine (stake_any w25 b g c ss HM25.out n hn64).mono ?_
        rintro e w26 ⟨v9, rfl, hl9, hm26, hb26⟩
        have HR26 : Hid (NumsAt w26 _ ss) := own_but HR25.out hb26 (fun j e => ⟨own_lt HR25.out e, by
          simp only [List.mem_singleton]
          rintro rfl
          exact own_apart HR25.out HM25.out.row (by decide) e rfl⟩)
        have HB26 := Lib.hid (below_but10 HB25.out HZ25.out hb26 hg)
        have HZ26 : Hid (N ≤ w26.heap.size) := Nat.le_trans HZ25.out hb26.size
        clear HM25 HR25 HB25 HZ25 hb26
        by_cases hc0 : takeC ss n = 0
        · have hl0 : takeL ss n = (ofS ss 0).take n.toNat := by unfold takeL; rw [if_pos hc0]
          have hn0 : 0 ≤ n ∧ n ≤ (f0 : Int) := by
            unfold takeC at hc0
            rw [F0.out] at hc0
            split at hc0
            · omega
            · split at hc0
              · omega
              · omega
          obtain ⟨m, rfl⟩ : ∃ m : Nat, n = m := ⟨n.toNat, by omega⟩
          have e1 : ((m : Int)).toNat = m := rfl
          rw [e1] at hl0
          have hlm : ((ofS ss 0).take m).length = m := by rw [List.length_take, F0.out]; omega
          rw [hl0, hlm] at hl9
          have Hcc := Lib.hid hc0
          rw [Hcc.out]
          have HT : Hid (∀ i, i < k → getS10 (takeM ss (m : Int)) (i : Int) = if isS ss 0 i = true ∧ (ofK ss 0 i).length < m then 1 else ((ss.getD i 0).toNat : Int)) := by
            intro i hi
            have hi2 : i < ss.length := by rw [Hsl.out]; exact hi
            rw [getS10_at (by rw [takeM_length]; exact hi2)]
            unfold takeM
            rw [hl0, getD_useL _ _ (fun j hj => ofS_lt (List.mem_of_mem_take hj))]
            by_cases hq : i ∈ (ofS ss 0).take m
            · rw [if_pos hq, if_pos ((mem_take10 hi2).1 hq)]
              rfl
            · rw [if_neg hq, if_neg (fun h => hq ((mem_take10 hi2).2 h))]
          obtain ⟨A9, c9, hv9, hc9, _⟩ := own_slice hl9
          subst hv9
          have HL9 : Hid (LiesV w26 w26.heap.size A9 (nats ((ofS ss 0).take m))) := by
            obtain ⟨A', c', hv, _, _, _, hl⟩ := LiesV.of_own hl9
            injection hv with e1
            subst e1
            exact hl
          have HM26 := Lib.hid hm26
          have Hlm := Lib.hid hlm
          have hmf : m ≤ f0 := by omega
          clear hl9 hm26 hc0 hl0 hlm e1 hn0 d1 F1 F2 H3 H4
          go_wp2_with fail
          have HB0 : Hid (Below w26.heap.size w26 w26) := Below.refl _ _
          go_loopw [11, 12] (fun v11 v12 W => ∃ i : Nat, i ≤ k ∧ v12 = .int .i64 i ∧ v11 = .int .i64 ((took ss m i : Nat) : Int) ∧ Hid (Below w26.heap.size w26 W)) (fun _ v _ => k - (intOf v).toNat)
          case atStart => exact ⟨0, Nat.zero_le _, rfl, by rw [took_zero]; rfl, HB0⟩
          case round =>
            obtain ⟨i, hi, rfl, rfl, HBq⟩ := hrel
            clear HB0
            by_cases hlt : i < k
            · have hlt' : (i : Int) < (k : Int) := by omega
              have hi2 : i < ss.length := by rw [Hsl.out]; exact hlt
              have hcr1 : wr.cell? ⟨gr, i, none⟩ = some (.int .i64 ((ss.getD i 0).toNat : Int)) := by
                have h5 := (HR26.out.later HBq.out)
                have h6 := World.ownsRow.cells h5 (g := gr) rfl i _ (nums_get hi2)
                rwa [Addr.add_lit, Nat.zero_add] at h6
              have HGq : Hid (∀ q, Calls Try.prog 21 #[.pointer (some ⟨b, 0, none⟩), .int .i64 (i : Int)] (wr.drewN q) fun e w' => e = .returned (.int .i64 (getS10 (takeM ss (m : Int)) (i : Int))) ∧ ∃ q', w' = wr.drewN q') := by
                intro q
                refine (sget_any (wr.drewN q) b g c _ ((HM26.out.later HBq.out).below (below_of_drewN wr q _) (HM26.out.later HBq.out).blt (HM26.out.later HBq.out).glt) (i : Int)).mono ?_
                rintro e w' ⟨rfl, rfl⟩
                exact ⟨rfl, q, rfl⟩
              rw [HT.out i hlt] at HGq
              have Hs := Lib.hid (show isS ss 0 i = decide (((ss.getD i 0).toNat : Int) = 0) from rfl)
              have Hyes := Lib.hid (fun h h' => took_yes (ss := ss) (m := m) hi2 h h')
              have Hno := Lib.hid (fun h => took_no (ss := ss) (m := m) (i := i) h)
              have hkm : took ss m i ≤ m := Nat.min_le_right _ _
              generalize (ss.getD i 0).toNat = x at *
              obtain ⟨kk, hkk⟩ : ∃ kk, took ss m i = kk := ⟨_, rfl⟩
              rw [hkk] at Hyes Hno hkm
              have Hkk := Lib.hid hkk
              rw [hkk]
              clear hkk
              by_cases hx : x = 0
              · by_cases hkl : kk < m
                · have hs : isS ss 0 i = true := by rw [Hs.out, hx]; rfl
                  obtain ⟨t1, t2, t3⟩ := Hyes.out hs hkl
                  rw [if_pos ⟨hs, t3⟩] at HGq
                  subst hx
                  have hkl' : (kk : Int) < (m : Int) := by omega
                  have hn9 : (nats ((ofS ss 0).take m))[kk]? = some (.int .i64 (i : Int)) := by rw [nats, List.getElem?_map, t1]; rfl
                  obtain ⟨p9, o9, hA9, _, hc99⟩ := (HL9.out.below HBq.out).at_ hn9
                  subst hA9
                  have HTK := Lib.hid t2
                  clear Hyes Hno t1 t2 t3 hs hn9
                  go_wp2_with fail
                  go_quiet (exact HGq.out _)
                  have HBn : Hid (Below w26.heap.size w26 (wr.drewN nq)) := below_drewN' HBq.out nq
                  clear hcr1 HBq HGq
                  generalize wr.drewN nq = wz at *
                  go_wp2_with fail
                  go_roundw
                  case rel => exact ⟨i + 1, by omega, by go_num, by rw [HTK.out]; rfl, HBn⟩
                  case measure => simp [intOf]; omega
                · have hkm' : kk = m := by omega
                  obtain ⟨t1, t2⟩ := Hno.out (.inr (by omega))
                  rw [if_neg t2] at HGq
                  have HTK := Lib.hid t1
                  clear Hyes Hno t1 t2
                  subst hx
                  subst hkm'
                  go_wp2_with fail
                  go_quiet (exact HGq.out _)
                  have HBn : Hid (Below w26.heap.size w26 (wr.drewN nq)) := below_drewN' HBq.out nq
                  clear hcr1 HBq HGq
                  generalize wr.drewN nq = wz at *
                  go_wp2_with fail
                  go_roundw
                  case rel => exact ⟨i + 1, by omega, by go_num, by rw [HTK.out]; first | done | rfl, HBn⟩
                  case measure => simp [intOf]; omega
              · have hxb : ((x : Int) == 0) = false := by simp; omega
                obtain ⟨t1, t2⟩ := Hno.out (.inl (by rw [Hs.out, decide_eq_false]; omega))
                rw [if_neg t2] at HGq
                have HTK := Lib.hid t1
                clear Hyes Hno t1 t2
                go_wp2_with fail
                go_quiet (exact HGq.out _)
                have HBn : Hid (Below w26.heap.size w26 (wr.drewN nq)) := below_drewN' HBq.out nq
                clear hcr1 HBq HGq
                generalize wr.drewN nq = wz at *
                go_wp2_with fail
                go_roundw
                case rel => exact ⟨i + 1, by omega, by go_num, by rw [HTK.out]; first | done | rfl, HBn⟩
                case measure => simp [intOf]; omega
            · obtain rfl : i = k := by omega
              have ht : took ss m i = m := by
                have : (ofK ss 0 i).length = f0 := by rw [← F0.out, ← Hsl.out]; rfl
                unfold took
                omega
              rw [ht]
              clear ht
              go_wp2_with fail
              refine (works10_any wr).mono ?_
              rintro e w28 ⟨rfl, hb28⟩
              have HB28 := (HB26.out.trans (HBq.out.mono HZ26.out)).trans (hb28.mono (Nat.le_trans HZ26.out HBq.out.size))
              go_wp2_with fail
              go_ret
              exact ⟨rfl, by rw [hN]; exact HB28⟩
        · have Hl0 : Hid (takeL ss n = []) := by show _ = _; unfold takeL; rw [if_neg hc0]
          have Hm0 : Hid (takeM ss n = ss) := by show _ = _; unfold takeM; rw [Hl0.out]; rfl
          rw [Hl0.out] at hl9
          rw [Hm0.out] at hm26
          obtain ⟨A9, c9, hv9, hc9, _⟩ := own_slice hl9
          have hv9' : v9 = .slice A9 0 c9 := hv9
          subst hv9'
          have HM26 := Lib.hid hm26
          clear hv9 hl9 hm26
          have hcb : (takeC ss n == 0) = false := by simp [hc0]
          generalize takeC ss n = cc at *
          clear hc0 Hl0 Hm0
          go_wp2_with fail
          refine (same10_any w26 b g c ss _ HM26.out HR26.out).mono ?_
          rintro e w27 ⟨rfl, hb27⟩
          have HB27 := HB26.out.trans (hb27.mono HZ26.out)
          clear HM26 HR26
          go_wp2_with fail
          refine (works10_any w27).mono ?_
          rintro e w28 ⟨rfl, hb28⟩
          have HB28 := HB27.trans (hb28.mono (Nat.le_trans HZ26.out hb27.size))
          go_wp2_with fail
          go_ret
          exact ⟨rfl, by rw [hN]; exact HB28⟩
end Go.Proofs.Yticlbefbnfnlmaa
