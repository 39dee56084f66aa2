/-
  Layer 15: the laws' works.
-/
import Derived.Test.YtmcnhcbibcjgnaaPkClsY
import Derived.Test.YtmcnhcbibcjgnaaPkClsJ
namespace Go.Proofs.Ytmcnhcbibcjgnaa
open Go.RowKit Go.Maps
set_option linter.unusedVariables false
set_option linter.unusedSimpArgs false

def tax0 : Cl := ⟨[116, 97, 120], 10, false, true⟩
def tax1 : Cl := ⟨[116, 97, 120], 0, false, false⟩
def tax2 : Cl := ⟨[116, 97, 120], 12, false, true⟩
def clA : Cl := ⟨[65], 0, false, false⟩
theorem ex_add : addC [] tax0 = ([tax0], 0) := by decide
theorem ex_twice : addC [tax0] tax1 = ([tax0], 9) := by decide
theorem ex_kept : longC [tax0] [116, 97, 120] 9 = ([tax0], 12) := by decide
theorem ex_long : longC [tax0] [116, 97, 120] 12 = ([tax2], 0) := by decide
theorem ex_ok : SetOk [tax2] := by
  have h := longC_ok (addC_ok SetOk.nil tax0) [116, 97, 120] 12
  rw [ex_add] at h
  rw [ex_long] at h
  exact h
theorem ex_find : findC [tax2] [116, 97, 120] = some 0 := by decide
theorem ex_check : checkC 10 2 clA = 10 := by decide
theorem ex_name : nameC 10 [97, 45, 49] = 0 := by decide
set_option maxRecDepth 1000000 in
theorem crc_zero252 : four (crcOf (List.replicate 252 0)) ≠ [0, 0, 0, 0] := by decide +kernel
theorem zero_none (m : List Cl) (hm : SetOk m) : clsS m ≠ zeroSec := by
  intro e
  have h0 := cnt_of hm e
  have hz : (zeroSec.1.getD 0 0).toNat = 0 := by decide
  rw [hz] at h0
  have hm0 : m = [] := List.eq_nil_of_length_eq_zero h0.symm
  subst hm0
  have h1 := congrArg Subtype.val e
  have e1 : padL (clsB []) = List.replicate 252 0 := rfl
  have h2 : sealB (padL (clsB [])) = List.replicate 256 0 := h1
  rw [e1] at h2
  have h3 := congrArg (List.drop 252) h2
  unfold sealB at h3
  rw [List.drop_left' List.length_replicate, List.drop_replicate] at h3
  exact crc_zero252 h3
theorem ReadP15.yes {w w' : World} {l : List Cl} {e : Ending} (h : ReadP15 w (clsS l) e w') (hl : SetOk l) : ∃ g L, e = .returned (.tuple #[.pointer (some ⟨g, 0, none⟩), .int .i64 0]) ∧ Cls w' w.heap.size L g l ∧ Below w.heap.size w w' := by
  obtain ⟨hb, ⟨m, g, L, h1, h2, h3, h4⟩ | ⟨h1, _⟩⟩ := h
  · obtain rfl := clsS_one h1 hl h2
    exact ⟨g, L, h3, h4, hb⟩
  · exact absurd rfl (h1 l hl)
theorem ReadP15.no {w w' : World} {x : Sec} {e : Ending} (h : ReadP15 w x e w') (hx : ∀ m, SetOk m → clsS m ≠ x) : e = .returned (.tuple #[.pointer none, .int .i64 5]) ∧ Below w.heap.size w w' := by
  obtain ⟨hb, ⟨m, g, L, h1, h2, h3, h4⟩ | ⟨_, h1⟩⟩ := h
  · exact absurd h2 (hx m h1)
  · exact ⟨h1, hb⟩
theorem zeroSw15 (w : World) : (zeroValue 48).run Try.prog w = .ok (.agg zeroSec.cs.toArray) w := by kernel_rfl
theorem taxB0 : Try.prog.built 34 [(0, .string ⟨#[116, 97, 120]⟩), (1, .int .i64 10), (3, .bool true)] = some (clv tax0).toArray := by kernel_rfl
theorem taxB1 : Try.prog.built 34 [(0, .string ⟨#[116, 97, 120]⟩)] = some (clv tax1).toArray := by kernel_rfl
theorem clAB : Try.prog.built 34 [(0, .string ⟨#[65]⟩)] = some (clv clA).toArray := by kernel_rfl

theorem at_buildG {P : Program} {w : World} {ops : Array Oper} {rest : List Oper} {a : Act} {Q : Exit → Act → World → Prop} {d : Option Tmp} {x : Array (Nat × Operand)} {u : TypeId} {p : String} {af : Array Edge} {gd : Nat × Bool} (ty : TypeId)
    (h : wpList P ops Q (⟨d, .build ty x, u, p, af, some gd⟩ :: rest) a w) : wpList P ops Q (⟨d, .build ty x, u, p, af, some gd⟩ :: rest) a w := h
theorem build_clPG {w : World} {ops : Array Oper} {rest : List Oper} {o : Oper} {a : Act} {Q : Exit → Act → World → Prop} (hw : Region.wanted o (yielded ops a.tmps) = true) (parts : Array (Nat × Operand)) (ho : o.op = .build 34 parts) (c : Cl) {L : List (Nat × Value)}
    (hp : (parts.toList.map fun p => (p.1, a.eval p.2)) = L) (hb : Try.prog.built 34 L = some (clv c).toArray)
    (h : wpList Try.prog ops Q rest (a.put o.dst (.agg (clv c).toArray)) w) : wpList Try.prog ops Q (o :: rest) a w := by
  refine wpList_wants hw (fun K hK => ?_)
  have e : (execOp a.eval o).run Try.prog w = .ok (.value (.agg (clv c).toArray)) w := exec_built 34 parts ho (clv c) (by rw [hp]; exact hb)
  unfold Oper.wp
  rw [e]
  exact hK _ _ h

set_option maxRecDepth 100000 in
set_option maxHeartbeats 8000000 in
theorem works15_any : Works15 := by
  intro w
  obtain ⟨N, hN⟩ : ∃ N, w.heap.size = N := ⟨_, rfl⟩
  have HN := Lib.hid hN
  go_enter Try.func7, Try.ntmps7
  go_wp2_with fail
  refine (cnew_any w).mono ?_
  rintro e w1 ⟨rfl, hc1, hb1⟩
  rw [hN] at hc1 hb1 ⊢
  have HC1 := Lib.hid hc1
  have HB1 := Lib.hid hb1
  clear hc1 hb1 hN
  go_wp2_with ((with_reducible refine at_build 34 ?_); refine build_clP rfl _ rfl tax0 rfl taxB0 ?_)
  refine (cadd_any w1 N N [N] [] tax0 HC1.out (by decide)).mono ?_
  rintro e w2 ⟨rfl, hT⟩
  rw [ex_add] at hT ⊢
  obtain ⟨L2, hc, hb, _⟩ := hT
  have HC2 := Lib.hid hc
  have HB2 : Hid (Below N w w2) := HB1.out.trans ((hb.less (by have := HB1.out.size; have := HN.out; omega)).below (fun j hj => (HC1.out.lt hj).1))
  clear hc hb HC1 HB1
  go_wp2_with ((with_reducible refine at_build 34 ?_); refine build_clP rfl _ rfl tax1 rfl taxB1 ?_)
  refine (cadd_any w2 N N L2 [tax0] tax1 HC2.out (by decide)).mono ?_
  rintro e w3 ⟨rfl, hT⟩
  rw [ex_twice] at hT ⊢
  obtain ⟨L3, hc, hb, _⟩ := hT
  have HC3 := Lib.hid hc
  have HB3 : Hid (Below N w w3) := HB2.out.trans ((hb.less (by have := HB2.out.size; have := HN.out; omega)).below (fun j hj => (HC2.out.lt hj).1))
  clear hc hb HC2 HB2
  go_wp2_with fail
  refine (clonger_any w3 N N L3 [tax0] [116, 97, 120] 9 HC3.out (by decide)).mono ?_
  rintro e w4 ⟨rfl, hT⟩
  rw [ex_kept] at hT ⊢
  obtain ⟨L4, hc, hb, _⟩ := hT
  have HC4 := Lib.hid hc
  have HB4 : Hid (Below N w w4) := HB3.out.trans ((hb.less (by have := HB3.out.size; have := HN.out; omega)).below (fun j hj => (HC3.out.lt hj).1))
  clear hc hb HC3 HB3
  go_wp2_with fail
  refine (clonger_any w4 N N L4 [tax0] [116, 97, 120] 12 HC4.out (by decide)).mono ?_
  rintro e w5 ⟨rfl, hT⟩
  rw [ex_long] at hT ⊢
  obtain ⟨L5, hc, hb, _⟩ := hT
  have HC5 := Lib.hid hc
  have HB5 : Hid (Below N w w5) := HB4.out.trans ((hb.less (by have := HB4.out.size; have := HN.out; omega)).below (fun j hj => (HC4.out.lt hj).1))
  clear hc hb HC4 HB4
  go_wp2_with fail
  refine (cput_any w5 N N L5 [tax2] HC5.out).mono ?_
  rintro e w6 ⟨rfl, hb⟩
  have HC6 := Lib.hid (HC5.out.below hb)
  have HB6 : Hid (Below N w w6) := HB5.out.trans (hb.mono (by have := HB5.out.size; have := HN.out; omega))
  clear hb HC5 HB5
  go_wp2_with fail
  refine (cread_any w6 (clsS [tax2])).mono ?_
  rintro e w7 hP
  obtain ⟨g, Lt, rfl, hct, hb⟩ := hP.yes ex_ok
  clear hP
  have HC7 : Hid (Cls w7 N Lt g [tax2]) := hct.lower (by have := HB6.out.size; have := HN.out; omega)
  clear hct
  have HB7 : Hid (Below N w w7) := HB6.out.trans (hb.mono (by have := HB6.out.size; have := HN.out; omega))
  clear hb HC6 HB6
  have hzv := zeroSw15
  go_wp2_with fail
  clear hzv
  refine (cread_any w7 zeroSec).mono ?_
  rintro e w8 hP
  obtain ⟨rfl, hb⟩ := hP.no zero_none
  clear hP
  have HC8 := Lib.hid (HC7.out.below hb)
  have HB8 : Hid (Below N w w8) := HB7.out.trans (hb.mono (by have := HB7.out.size; have := HN.out; omega))
  clear hb HC7 HB7
  go_wp2_with fail
  refine (cget_any w8 N g Lt [tax2] 0 HC8.out).mono ?_
  rintro e w9 ⟨rfl, hb⟩
  have hgt : getC15 [tax2] 0 = (tax2, true) := by decide
  rw [hgt]
  clear hgt
  have HC9 := Lib.hid (HC8.out.below hb)
  have HB9 : Hid (Below N w w9) := HB8.out.trans (hb.mono (by have := HB8.out.size; have := HN.out; omega))
  clear hb HC8 HB8
  go_wp2_with ((with_reducible refine at_alloc 34 ?_); refine alloc_cl rfl rfl ?_)
  intro w10 hr10 hb hs
  have HC10 := Lib.hid (HC9.out.below hb)
  have HB10 : Hid (Below N w w10) := HB9.out.trans (hb.mono (by have := HB9.out.size; have := HN.out; omega))
  obtain ⟨X, hX⟩ : ∃ X, w9.heap.size = X := ⟨_, rfl⟩
  have hXN : N ≤ X := by rw [← hX, ← HN.out]; exact HB9.out.size
  have hXL : Hid (X ∉ Lt) := fun e => by have := (HC9.out.lt e).2; omega
  rw [hX] at hr10 ⊢
  clear hb hs HC9 HB9 hX
  go_wp2_with ((with_reducible refine at_store 34 ?_); refine store_cl rfl _ _ rfl X tax2 rfl rfl hr10 (clv_length _) ?_)
  intro w11 hr11 hg hs
  have hbt : But [X] w10.heap.size w10 w11 := (But.refl _ _ _).grown hg (fun k e => by injection e with e; subst e; left; simp) (Nat.le_refl _)
  have HC11 : Hid (Cls w11 N Lt g [tax2]) := HC10.out.but hbt (fun i hi => ⟨(HC10.out.lt hi).2, by intro e; simp at e; subst e; exact hXL.out hi⟩)
  have HB11 : Hid (Below N w w11) := below_grown HB10.out hg hXN (by have := HB10.out.size; have := HN.out; omega)
  have hXlt := hr11.lt
  have n1 := cl_per hr11
  have n3 := cl_pr hr11
  clear hr10 hg hs hbt HC10 HB10
  go_wp2_with fail
  refine (cfind_any w11 N g Lt [tax2] [116, 97, 120] HC11.out (by decide)).mono ?_
  rintro e w9 ⟨rfl, rfl⟩
  unfold findV
  rw [ex_find]
  simp only [Option.isSome_some, Option.getD_some]
  clear n1 n3
  go_wp2_with fail
  refine (ccopy_any w11 N g Lt [tax2] HC11.out).mono ?_
  rintro e w12 ⟨gk, Lk, rfl, hck, hb⟩
  have HC12 := Lib.hid (HC11.out.below hb)
  have HK12 := Lib.hid hck
  have HB12 : Hid (Below N w w12) := HB11.out.trans (hb.mono (by have := HB11.out.size; have := HN.out; omega))
  have hrx := hr11.below hXlt hb
  have n1 := cl_per hrx
  have n3 := cl_pr hrx
  clear hb hck HC11 HB11 hr11
  have e1 : tax2.period = 12 := rfl
  have e3 : tax2.priv = true := rfl
  rw [e1] at n1
  rw [e3] at n3
  go_wp2_with fail
  refine (clen_any w12 w11.heap.size gk Lk [tax2] HK12.out).mono ?_
  rintro e w9 ⟨rfl, rfl⟩
  go_wp2_with fail
  refine (call_any w12 N g Lt [tax2] HC12.out).mono ?_
  rintro e w13 ⟨Aa, ca, rfl, _, _, hb⟩
  have HB13 : Hid (Below N w w13) := HB12.out.trans (hb.mono (by have := HB12.out.size; have := HN.out; omega))
  clear hb
  go_wp2_with ((with_reducible refine at_buildG 34 ?_); refine build_clPG (by rfl) _ rfl clA rfl clAB ?_)
  refine (ccheck_any clA w13).mono ?_
  rintro e w14 ⟨rfl, hb⟩
  rw [ex_check]
  have HB14 : Hid (Below N w w14) := HB13.out.trans (hb.mono (by have := HB13.out.size; have := HN.out; omega))
  clear hb
  go_wp2_with fail
  refine (cname_any ⟨#[97, 45, 49]⟩ w14).mono ?_
  rintro e w9 ⟨rfl, rfl⟩
  have hnm : nameC 10 (⟨#[97, 45, 49]⟩ : ByteArray).data.toList = 0 := ex_name
  rw [hnm]
  go_wp2_with fail
  go_ret
  exact ⟨rfl, by rw [HN.out]; exact HB14.out⟩
end Go.Proofs.Ytmcnhcbibcjgnaa
