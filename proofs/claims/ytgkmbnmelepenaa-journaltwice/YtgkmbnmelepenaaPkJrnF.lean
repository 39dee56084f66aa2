/-
  Layer 9: a journal in memory; the contract of inOrder.
  Layer 9: a journal in memory ('Jr'); the contracts of writeHome, writeBody, blankBody.
  Layer 9: the contracts of writeBody and blankBody.
  Layer 9: the contracts of the closures, of Scrub and complete.
  Layer 9: the contracts of Scrub and complete.
  Layer 9: the contract of complete.
-/
import Derived.Test.YtgkmbnmelepenaaRows
import Derived.Test.YtgkmbnmelepenaaPkJrnN
import Derived.Test.YtgkmbnmelepenaaPkLivC
import Derived.Test.YtgkmbnmelepenaaPkPlanM
import Derived.Test.YtgkmbnmelepenaaPkMemV
import Derived.Test.YtgkmbnmelepenaaPkTrapM
namespace Go.Proofs.Ytgkmbnmelepenaa
open Go.RowKit
set_option linter.unusedVariables false
set_option linter.unusedSimpArgs false

/-- A function value: its function, what is bound ahead, what it captured. -/
abbrev FnV := FuncId × Array Value × Array Value
def fnV (f : FnV) : Value := .func (.func f.1) f.2.1 f.2.2

set_option maxRecDepth 100000 in
set_option maxHeartbeats 1000000 in
theorem jorder_any (fs : List FnV) (sp : List (Dk → Dk × Int)) (I : Nat → Dk → World → Prop) (A : Option Addr) (n c : Nat) (hn : n = fs.length) (hs : sp.length = fs.length) (h100 : n ≤ 100)
    (hrow : ∀ k d W, I k d W → LiesV W W.heap.size A (fs.map fnV))
    (he : ∀ f ∈ fs, ∀ (w : World) (d : Array Value), (callFunc f.1 d).run Try.prog w = .ok (.enter f.1 d) w)
    (hf : ∀ k f s, fs[k]? = some f → sp[k]? = some s → ∀ d W, I k d W → Calls Try.prog f.1 (f.2.1 ++ f.2.2) W fun e W' => e = .returned (.int .i64 (s d).2) ∧ I (k + 1) (s d).1 W')
    (d : Dk) (w : World) (h0 : I 0 d w) :
    Calls Try.prog 47 #[.slice A n c] w fun e w' => e = .returned (.int .i64 (Dk.inOrder sp d).2) ∧ ∃ k, I k (Dk.inOrder sp d).1 w' := by
  have Hn := Lib.hid hn
  have Hs := Lib.hid hs
  have HR := Lib.hid hrow
  have HE := Lib.hid he
  have HF := Lib.hid hf
  have H0 := Lib.hid h0
  clear hn hs hrow he hf h0
  go_enter Try.func47, Try.ntmps47
  go_wp2_with fail
  go_loopw [7] (fun v W => ∃ k : Nat, k ≤ n ∧ v = .int .i64 k ∧ Hid (∃ d', I k d' W ∧ Dk.inOrder sp d = Dk.inOrder (sp.drop k) d')) (fun v _ => n - (intOf v).toNat)
  case atStart => exact ⟨0, Nat.zero_le _, rfl, d, H0.out, rfl⟩
  case round =>
    obtain ⟨k, hk, rfl, hI⟩ := hrel
    obtain ⟨d', hI1, hI2⟩ := hI.out
    clear hI
    have HI1 := Lib.hid hI1
    have HI2 := Lib.hid hI2
    clear hI2 hI1
    by_cases hlt : k < n
    · have hlt' : (k : Int) < (n : Int) := by omega
      have hk0 : (0 : Int) ≤ (k : Int) := by omega
      obtain ⟨f, hfk⟩ : ∃ f, fs[k]? = some f := ⟨_, List.getElem?_eq_getElem (by rw [← Hn.out]; exact hlt)⟩
      obtain ⟨s, hsk⟩ : ∃ s, sp[k]? = some s := ⟨_, List.getElem?_eq_getElem (by rw [Hs.out, ← Hn.out]; exact hlt)⟩
      obtain ⟨b, o, rfl, hb, hcell⟩ := (HR.out k d' wr HI1.out).at_ (i := k) (v := fnV f) (by rw [List.getElem?_map, hfk]; rfl)
      have hent := HE.out f (List.mem_of_getElem? hfk)
      have HC := Lib.hid (HF.out k f s hfk hsk d' wr HI1.out)
      have hdr : sp.drop k = s :: sp.drop (k + 1) := by
        obtain ⟨h1, h2⟩ := List.getElem?_eq_some_iff.1 hsk
        rw [List.drop_eq_getElem_cons h1, h2]
      have Hin : Hid (Dk.inOrder sp d = if (s d').2 = 0 then Dk.inOrder (sp.drop (k + 1)) (s d').1 else ((s d').1, 4)) := by
        show _ = _
        rw [HI2.out, hdr]
        rfl
      obtain ⟨g, fi, ca⟩ := f
      simp only [fnV] at hcell hent
      have hfk' := Lib.hid hfk
      clear hfk hsk hdr
      go_wp2_with fail
      refine Calls.mono HC.out ?_
      rintro e w1 ⟨rfl, hI1⟩
      have HI := Lib.hid hI1
      clear hI1 hcell hent
      by_cases hz : (s d').2 = 0
      · rw [hz]
        go_wp2_with fail
        go_roundw
        case rel => exact ⟨k + 1, by omega, by go_num, _, HI.out, by rw [Hin.out, if_pos hz]⟩
        case measure => simp [intOf]; omega
      · go_wp2_with fail
        go_ret
        rw [Hin.out, if_neg hz]
        exact ⟨rfl, _, HI.out⟩
    · obtain rfl : k = n := by omega
      have hdr : sp.drop k = [] := List.drop_eq_nil_of_le (by rw [Hs.out, ← Hn.out]; exact Nat.le_refl _)
      go_wp2_with fail
      go_ret
      rw [HI2.out, hdr]
      exact ⟨rfl, _, HI1.out⟩
end Go.Proofs.Ytgkmbnmelepenaa
namespace Go.Proofs.Ytgkmbnmelepenaa
open Go.RowKit
set_option linter.unusedVariables false
set_option linter.unusedSimpArgs false

/-- The numbers of a layout that the journal does not read. -/
structure Lq where
  s : Int
  t : Int
  c : Int
  a : Int
  x1 : Int
  x2 : Int
  x3 : Int
  x4 : Int
  x7 : Int
  x9 : Int
def lq (q : Lq) (y : Jl) : List Value := lcs q.s q.t q.c q.a q.x1 q.x2 q.x3 q.x4 (y.head : Int) (y.body : Int) q.x7 (y.total : Int) q.x9 (y.room : Int)
def jcs (g : Nat) (q : Lq) (y : Jl) : List Value := .pointer (some ⟨g, 0, none⟩) :: lq q y
/-- Block gj is the journal of the disk d, which lies at g and holds the blocks of L. -/
structure Jr (w : World) (base : Nat) (L : List Nat) (g gj : Nat) (q : Lq) (y : Jl) (d : Dk) : Prop where
  disk : Disk w base L g d
  row : RowV w gj 84 (jcs g q y)
  apart : gj ∉ L
  size : base ≤ w.heap.size
/-- A row of changes that lies apart from the blocks of L. -/
structure Chs (w : World) (L : List Nat) (A : Option Addr) (l : List ChI) : Prop where
  lies : LiesV w w.heap.size A (chis l)
  apart : l ≠ [] → ∀ a, A = some a → a.block ∉ L

section
variable {w W W' : World} {base g gj : Nat} {L : List Nat} {d d' : Dk} {q : Lq} {y : Jl} {A : Option Addr}
theorem Turned.refl (h : Disk w base L g d) : Turned w base L g d w := ⟨L, h, But.refl _ _ _, fun k hk => .inl hk⟩
theorem Turned.drew (h : Turned w base L g d W) : Turned w base L g d W.drew := by
  obtain ⟨L', h1, h2, h3⟩ := h
  exact ⟨L', h1.drew, h2.drew, h3⟩
theorem Turned.below (h : Turned w base L g d W) (hb : Below W.heap.size W W') : Turned w base L g d W' := by
  obtain ⟨L', h1, h2, h3⟩ := h
  exact ⟨L', h1.below hb, h2.trans ((But.of L hb).less h2.size), h3⟩
theorem Turned.size (h : Turned w base L g d W) : w.heap.size ≤ W.heap.size := by
  obtain ⟨_, _, h2, _⟩ := h
  exact h2.size
theorem Turned.row {k : Nat} {t : TypeId} {cs : List Value} (h : Turned w base L g d W) (hr : RowV w k t cs) (hk : k ∉ L) : RowV W k t cs := by
  obtain ⟨_, _, h2, _⟩ := h
  exact rowV_but hr h2 hr.lt hk
theorem Turned.low2 (h : Turned w base L g d W) (hb : base ≤ w.heap.size) (hD : Disk w base L g d') : Below base w W := by
  obtain ⟨L', h1, h2, h3⟩ := h
  exact (h2.less hb).below (fun k hk => (hD.lt hk).1)
/-- A call on the disk behind others. -/
theorem Turned.call {f : FuncId} {args : Array Value} {r : Int} (h : Turned w base L g d W) (hc : ∀ L', Disk W base L' g d → Calls Try.prog f args W fun e W' => e = .returned (.int .i64 r) ∧ Turned W base L' g d' W') :
    Calls Try.prog f args W fun e W' => e = .returned (.int .i64 r) ∧ Turned w base L g d' W' := by
  obtain ⟨L', h1, h2, h3⟩ := h
  refine (hc L' h1).mono ?_
  rintro e W' ⟨rfl, h4⟩
  exact ⟨rfl, Turned.trans h2 h3 h4⟩
theorem Turned.write (h : Turned w base L g d W) (hb : base ≤ w.heap.size) (x : Int) (s : Sec) {T N : Nat} (hf : Fit T d N) (hN : N < 1000000) :
    Calls Try.prog 52 #[.pointer (some ⟨g, 0, none⟩), .int .i64 x, .agg s.cs.toArray] W fun e W' => e = .returned (.int .i64 (d.write x s).2) ∧ Turned w base L g (d.write x s).1 W' :=
  h.call fun L' hD => dwrite_any W base g L' d x s hf.ok (Nat.lt_of_le_of_lt hf.wait hN) hD (Nat.le_trans hb h.size)
theorem Turned.flush (h : Turned w base L g d W) {T N : Nat} (hf : Fit T d N) :
    Calls Try.prog 50 #[.pointer (some ⟨g, 0, none⟩)] W fun e W' => e = .returned (.int .i64 d.flush.2) ∧ Turned w base L g d.flush.1 W' :=
  h.call fun L' hD => dflush_any W base g L' d hf.ok hD
theorem Chs.at_ {l : List ChI} (hc : Chs w L A l) (h : Turned w base L g d W) {k : Nat} {c : ChI} (hk : l[k]? = some c) : ∃ b o, A = some ⟨b, o, none⟩ ∧ W.rangeAt b (o + k * 257) c.cs ∧ b < W.heap.size := by
  obtain ⟨L', h1, h2, h3⟩ := h
  have hne : l ≠ [] := by rintro rfl; simp at hk
  have hkl := (List.getElem?_eq_some_iff.1 hk).1
  have hcs : chis l ≠ [] := fun e => by have := chis_length l; rw [e] at this; simp at this; omega
  obtain ⟨b, o, rfl, hb, hcell⟩ := hc.lies hcs
  refine ⟨b, o, rfl, fun j v hj => ?_, Nat.lt_of_lt_of_le hb h2.size⟩
  have hj2 := (List.getElem?_eq_some_iff.1 hj).1
  rw [ChI.cs_length] at hj2
  have hv : (chis l)[k * 257 + j]? = some v := by rw [chis_get hk j hj2]; exact hj
  have h4 := hcell _ _ hv
  rw [World.cell?_of_block (h2.block b hb (hc.apart hne _ rfl)), Nat.add_assoc]
  exact h4
theorem Chs.len {l : List ChI} : Chs w L A [] := ⟨LiesV.nil _ _ _, fun h => absurd rfl h⟩
end

theorem Try.sizeC9 : (Try.prog.info? 66).map (·.size) = some 257 := by kernel_rfl
def chi0 : ChI := (0, zeroSec)
theorem chi_size (c : ChI) : (Try.prog.info? 66).map (·.size) = some c.cs.length := by rw [ChI.cs_length]; exact Try.sizeC9
theorem chi_size' (c : ChI) : (Try.prog.info? 66).map (·.size) = some c.cs.toArray.size := by rw [List.size_toArray]; exact chi_size c
theorem chi_all (c : ChI) : c.cs.toArray.all (·.oneCell') = true := all_oneCell_toArray c.one
theorem Try.zeroC9 : (Try.prog.info? 66).bind (·.zero) = some (.agg chi0.cs.toArray) := by kernel_rfl
section
variable {w : World} {ops : Array Oper} {rest : List Oper} {o : Oper} {A : Act} {Q : Exit → Act → World → Prop}
theorem load_chi (hgd : o.guard = none) (x : Operand) (ho : o.op = .load 66 x) (b k : Nat) (hx : A.eval x = .pointer (some ⟨b, k, none⟩)) (c : ChI) (hc : w.rangeAt b k c.cs)
    (h : wpList Try.prog ops Q rest (A.put o.dst (.agg c.cs.toArray)) w) : wpList Try.prog ops Q (o :: rest) A w :=
  wpList_load_mid hgd 66 x ho b k hx c.cs _ hc Try.underlying66 rfl (chi_size c) h
theorem alloc_chi (hgd : o.guard = none) (ho : o.op = .alloc 66)
    (h : ∀ w', RowV w' w.heap.size 66 chi0.cs → Below w.heap.size w w' → w'.heap.size = w.heap.size + 1 → wpList Try.prog ops Q rest (A.put o.dst (.pointer (some ⟨w.heap.size, 0, none⟩))) w') : wpList Try.prog ops Q (o :: rest) A w :=
  wpList_alloc_rowV hgd 66 ho chi0.cs Try.zeroC9 h
theorem store_chi (hgd : o.guard = none) (x y : Operand) (ho : o.op = .store 66 x y) (g : Nat) (c : ChI) (hx : A.eval x = .pointer (some ⟨g, 0, none⟩)) (hy : A.eval y = .agg c.cs.toArray) {t : TypeId} {old : List Value} (hg : RowV w g t old) (hold : old.length = 257)
    (h : ∀ w', RowV w' g t c.cs → w.grownBy w' (some g) → w'.heap.size = w.heap.size → wpList Try.prog ops Q rest (A.put o.dst undef) w') : wpList Try.prog ops Q (o :: rest) A w :=
  wpList_store_rowV hgd 66 x y ho g _ hx hy t old hg (chi_size' c) (by rw [List.size_toArray, List.size_toArray, hold, ChI.cs_length]) (chi_all c) h
end
theorem chi_sec {w : World} {g : Nat} {t : TypeId} {c : ChI} (h : RowV w g t c.cs) : w.rangeAt g 1 c.2.cs := by
  intro j v hj
  rw [Nat.add_comm]
  exact h.cell (by simpa [ChI.cs] using hj)
/-- A change taken out of a row into a variable. -/
theorem Turned.made {w W W' W2 : World} {base g G : Nat} {L : List Nat} {d : Dk} (h : Turned w base L g d W) (hG : W.heap.size = G) (hb : Below G W W') (hs : W'.heap.size = G + 1) (hg : W'.grownBy W2 (some G)) : Turned w base L g d W2 :=
  h.below (by rw [hG]; exact below_grown hb hg (Nat.le_refl _) (by omega))

set_option maxRecDepth 100000 in
set_option maxHeartbeats 2000000 in
theorem jhome_any (w : World) (base : Nat) (L : List Nat) (g gj : Nat) (q : Lq) (y : Jl) (d : Dk) (l : List ChI) (A : Option Addr) (n c T N : Nat) (hJ : Jr w base L g gj q y d) (hl : Chs w L A l) (hn : n = l.length) (hnn : n ≤ 1000) (hf : Fit T d N) (hN : N + n < 1000000) :
    Calls Try.prog 72 #[.pointer (some ⟨gj, 0, none⟩), .slice A n c] w fun e w' => e = .returned (.int .i64 (d.writeAll l).2) ∧ Turned w base L g (d.writeAll l).1 w' := by
  have HJ := Lib.hid hJ
  have HL := Lib.hid hl
  have Hn := Lib.hid hn
  have Hf := Lib.hid hf
  clear hJ hl hn hf
  go_enter Try.func72, Try.ntmps72
  go_wp2_with fail
  go_loopw [10] (fun v W => ∃ k : Nat, k ≤ n ∧ v = .int .i64 k ∧ Hid (∃ d', Turned w base L g d' W ∧ Fit T d' (N + k) ∧ d.writeAll l = d'.writeAll (l.drop k))) (fun v _ => n - (intOf v).toNat)
  case atStart => exact ⟨0, Nat.zero_le _, rfl, d, Turned.refl HJ.out.disk, Hf.out, rfl⟩
  case round =>
    obtain ⟨k, hk, rfl, hI⟩ := hrel
    obtain ⟨d', hT, hF, hE⟩ := hI.out
    clear hI
    have HF := Lib.hid hF
    have HE := Lib.hid hE
    clear hE hF
    by_cases hlt : k < n
    · have hlt' : (k : Int) < (n : Int) := by omega
      have hk0 : (0 : Int) ≤ (k : Int) := by omega
      obtain ⟨cc, hck⟩ : ∃ cc, l[k]? = some cc := ⟨_, List.getElem?_eq_getElem (by rw [← Hn.out]; exact hlt)⟩
      have Hdr : Hid (d.writeAll l = if (d'.write cc.1 cc.2).2 = 0 then Dk.writeAll (d'.write cc.1 cc.2).1 (l.drop (k + 1)) else d'.write cc.1 cc.2) := by
        obtain ⟨h1, h2⟩ := List.getElem?_eq_some_iff.1 hck
        show _ = _
        rw [HE.out, List.drop_eq_getElem_cons h1, h2]
        rfl
      obtain ⟨b, o, hA, hr, hblt⟩ := HL.out.at_ hT hck
      subst hA
      have HT := Lib.hid hT
      clear hck hT
      generalize hG : wr.heap.size = G at *
      go_wp2_with (first
        | ((with_reducible refine at_load 66 ?_); refine load_chi rfl _ rfl b (o + k * 257) rfl cc hr ?_)
        | ((with_reducible refine at_alloc 66 ?_); refine alloc_chi rfl rfl ?_))
      intro w1 hr1 hb1 hs1
      go_wp2_with ((with_reducible refine at_store 66 ?_); refine store_chi rfl _ _ rfl G cc rfl rfl hr1 (ChI.cs_length _) ?_)
      intro w2 hr2 hg2 hs2
      have HT2 := Lib.hid (HT.out.made hG hb1 hs1 hg2)
      have hjr := HT2.out.row HJ.out.row HJ.out.apart
      have j0 := hjr.cell (i := 0) rfl
      have c0 := hr2.cell (i := 0) rfl
      have hsec := chi_sec hr2
      have Hs := Lib.hid (sec_size cc.2)
      clear hr1 hb1 hs1 hg2 hs2 HT hr hjr
      go_wp2_with fail
      refine wp_region_still_tail 8 (by kernel_rfl) (by kernel_rfl) ?_
      simp only [List.take_succ_cons, List.take_zero, List.drop_succ_cons, List.drop_zero]
      iterate 7 still_step
      refine wpStill_exec (.agg cc.2.cs.toArray) rfl (by refine exec_load_mid 23 (.tmp 20) rfl G 1 rfl cc.2.cs _ hsec Try.underlying23 rfl Hs.out) ?_
      refine wpStill_nil ?_
      change wpList _ _ _ _ _ w2.drew
      have HT3 := Lib.hid HT2.out.drew
      clear HT2 j0 c0 hsec hr2
      go_wp2_with fail
      refine (HT3.out.write HJ.out.size cc.1 cc.2 HF.out (by omega)).mono ?_
      rintro e w3 ⟨rfl, hT4⟩
      have HT4 := Lib.hid hT4
      have HF4 := Lib.hid (Keeps.write cc.1 cc.2 T d' (N + k) HF.out (by omega))
      clear hT4 HT3
      by_cases hz : (d'.write cc.1 cc.2).2 = 0
      · rw [hz]
        go_wp2_with fail
        go_roundw
        case rel => exact ⟨k + 1, by omega, by go_num, _, HT4.out, HF4.out, by rw [Hdr.out, if_pos hz]⟩
        case measure => simp [intOf]; omega
      · go_wp2_with fail
        go_ret
        rw [Hdr.out, if_neg hz]
        exact ⟨rfl, HT4.out⟩
    · obtain rfl : k = n := by omega
      have hdr : l.drop k = [] := List.drop_eq_nil_of_le (by rw [← Hn.out]; exact Nat.le_refl _)
      go_wp2_with fail
      go_ret
      rw [HE.out, hdr]
      exact ⟨rfl, hT⟩
end Go.Proofs.Ytgkmbnmelepenaa
namespace Go.Proofs.Ytgkmbnmelepenaa
open Go.RowKit
set_option linter.unusedVariables false
set_option linter.unusedSimpArgs false

theorem bodyL_cons {b k : Nat} {S : List Sec} {s : Sec} (h : S[k]? = some s) : bodyL (b + k) (S.drop k) = (((b + k : Nat) : Int), s) :: bodyL (b + (k + 1)) (S.drop (k + 1)) := by
  obtain ⟨h1, h2⟩ := List.getElem?_eq_some_iff.1 h
  rw [List.drop_eq_getElem_cons h1, h2, bodyL, Nat.add_assoc]
theorem Try.built0 : Try.prog.built 23 [] = some zeroSec.cs.toArray := by kernel_rfl

set_option maxRecDepth 100000 in
set_option maxHeartbeats 2000000 in
theorem jbody_any (w : World) (base : Nat) (L : List Nat) (g gj : Nat) (q : Lq) (y : Jl) (d : Dk) (l : List ChI) (A : Option Addr) (n c T N : Nat) (hJ : Jr w base L g gj q y d) (hy : y.Ok) (hl : Chs w L A l) (hn : n = l.length) (hnn : n ≤ 1000) (hf : Fit T d N) (hN : N + n < 1000000) :
    Calls Try.prog 49 #[.pointer (some ⟨gj, 0, none⟩), .slice A n c] w fun e w' => e = .returned (.int .i64 (d.writeAll (bodyL y.body (l.map (·.2)))).2) ∧ Turned w base L g (d.writeAll (bodyL y.body (l.map (·.2)))).1 w' := by
  have HJ := Lib.hid hJ
  have HL := Lib.hid hl
  have Hn := Lib.hid hn
  have Hf := Lib.hid hf
  have hb1 := hy.total
  have hb2 := hy.small
  generalize hS : l.map (·.2) = S at *
  have HS := Lib.hid hS
  clear hJ hl hn hf hS hy
  go_enter Try.func49, Try.ntmps49
  go_wp2_with fail
  go_loopw [10] (fun v W => ∃ k : Nat, k ≤ n ∧ v = .int .i64 k ∧ Hid (∃ d', Turned w base L g d' W ∧ Fit T d' (N + k) ∧ d.writeAll (bodyL y.body S) = d'.writeAll (bodyL (y.body + k) (S.drop k)))) (fun v _ => n - (intOf v).toNat)
  case atStart => exact ⟨0, Nat.zero_le _, rfl, d, Turned.refl HJ.out.disk, Hf.out, rfl⟩
  case round =>
    obtain ⟨k, hk, rfl, hI⟩ := hrel
    obtain ⟨d', hT, hF, hE⟩ := hI.out
    clear hI
    have HF := Lib.hid hF
    have HE := Lib.hid hE
    clear hE hF
    by_cases hlt : k < n
    · have hlt' : (k : Int) < (n : Int) := by omega
      have hk0 : (0 : Int) ≤ (k : Int) := by omega
      obtain ⟨cc, hck⟩ : ∃ cc, l[k]? = some cc := ⟨_, List.getElem?_eq_getElem (by rw [← Hn.out]; exact hlt)⟩
      have Hdr : Hid (d.writeAll (bodyL y.body S) = if (d'.write ((y.body : Int) + (k : Int)) cc.2).2 = 0 then Dk.writeAll (d'.write ((y.body : Int) + (k : Int)) cc.2).1 (bodyL (y.body + (k + 1)) (S.drop (k + 1))) else d'.write ((y.body : Int) + (k : Int)) cc.2) := by
        show _ = _
        rw [HE.out, bodyL_cons (s := cc.2) (by rw [← HS.out, List.getElem?_map, hck]; rfl)]
        rfl
      obtain ⟨b, o, hA, hr, hblt⟩ := HL.out.at_ hT hck
      subst hA
      have HT := Lib.hid hT
      clear hck hT
      generalize hG : wr.heap.size = G at *
      go_wp2_with (first
        | ((with_reducible refine at_load 66 ?_); refine load_chi rfl _ rfl b (o + k * 257) rfl cc hr ?_)
        | ((with_reducible refine at_alloc 66 ?_); refine alloc_chi rfl rfl ?_))
      intro w1 hr1 hb1 hs1
      go_wp2_with ((with_reducible refine at_store 66 ?_); refine store_chi rfl _ _ rfl G cc rfl rfl hr1 (ChI.cs_length _) ?_)
      intro w2 hr2 hg2 hs2
      have HT2 := Lib.hid (HT.out.made hG hb1 hs1 hg2)
      have hjr := HT2.out.row HJ.out.row HJ.out.apart
      have j0 := hjr.cell (i := 0) rfl
      have j10 := hjr.cell (i := 10) rfl
      have hsec := chi_sec hr2
      have Hs := Lib.hid (sec_size cc.2)
      have hwr : IntKind.i64.wrap ((y.body : Int) + (k : Int)) = (y.body : Int) + (k : Int) := IntWalk.i64_in _ (by omega)
      clear hr1 hb1 hs1 hg2 hs2 HT hr hjr
      go_wp2_with fail
      refine wp_region_still_tail 13 (by kernel_rfl) (by kernel_rfl) ?_
      simp only [List.take_succ_cons, List.take_zero, List.drop_succ_cons, List.drop_zero]
      iterate 12 still_step
      refine wpStill_exec (.agg cc.2.cs.toArray) rfl (by refine exec_load_mid 23 (.tmp 26) rfl G 1 rfl cc.2.cs _ hsec Try.underlying23 rfl Hs.out) ?_
      refine wpStill_nil ?_
      change wpList _ _ _ _ _ w2.drew
      have HT3 := Lib.hid HT2.out.drew
      clear HT2 j0 j10 hsec hr2
      go_wp2_with fail
      refine (HT3.out.write HJ.out.size ((y.body : Int) + (k : Int)) cc.2 HF.out (by omega)).mono ?_
      rintro e w3 ⟨rfl, hT4⟩
      have HT4 := Lib.hid hT4
      have HF4 := Lib.hid (Keeps.write ((y.body : Int) + (k : Int)) cc.2 T d' (N + k) HF.out (by omega))
      clear hT4 HT3 hwr
      by_cases hz : (d'.write ((y.body : Int) + (k : Int)) cc.2).2 = 0
      · rw [hz]
        go_wp2_with fail
        go_roundw
        case rel => exact ⟨k + 1, by omega, by go_num, _, HT4.out, HF4.out, by rw [Hdr.out, if_pos hz]⟩
        case measure => simp [intOf]; omega
      · go_wp2_with fail
        go_ret
        rw [Hdr.out, if_neg hz]
        exact ⟨rfl, HT4.out⟩
    · obtain rfl : k = n := by omega
      have hdr : S.drop k = [] := List.drop_eq_nil_of_le (by rw [← HS.out, List.length_map, ← Hn.out]; exact Nat.le_refl _)
      go_wp2_with fail
      go_ret
      rw [HE.out, hdr]
      exact ⟨rfl, hT⟩

set_option maxRecDepth 100000 in
set_option maxHeartbeats 2000000 in
theorem jblank_any (w : World) (base : Nat) (L : List Nat) (g gj : Nat) (q : Lq) (y : Jl) (d : Dk) (T N : Nat) (hJ : Jr w base L g gj q y d) (hy : y.Ok) (hf : Fit T d N) (hN : N + y.room < 1000000) :
    Calls Try.prog 60 #[.pointer (some ⟨gj, 0, none⟩)] w fun e w' => e = .returned (.int .i64 (d.writeAll (bodyL y.body (List.replicate y.room zeroSec))).2) ∧ Turned w base L g (d.writeAll (bodyL y.body (List.replicate y.room zeroSec))).1 w' := by
  have HJ := Lib.hid hJ
  have Hf := Lib.hid hf
  have hb1 := hy.total
  have hb2 := hy.small
  generalize hS : List.replicate y.room zeroSec = S at *
  have HS := Lib.hid hS
  have j14 := hJ.row.cell (i := 14) rfl
  clear hJ hf hS hy
  go_enter Try.func60, Try.ntmps60
  go_wp2_with fail
  clear j14
  generalize hn : y.room = n at *
  go_loopw [10] (fun v W => ∃ k : Nat, k ≤ n ∧ v = .int .i64 k ∧ Hid (∃ d', Turned w base L g d' W ∧ Fit T d' (N + k) ∧ d.writeAll (bodyL y.body S) = d'.writeAll (bodyL (y.body + k) (S.drop k)))) (fun v _ => n - (intOf v).toNat)
  case atStart => exact ⟨0, Nat.zero_le _, rfl, d, Turned.refl HJ.out.disk, Hf.out, rfl⟩
  case round =>
    obtain ⟨k, hk, rfl, hI⟩ := hrel
    obtain ⟨d', hT, hF, hE⟩ := hI.out
    clear hI
    have HF := Lib.hid hF
    have HE := Lib.hid hE
    clear hE hF
    by_cases hlt : k < n
    · have hlt' : (k : Int) < (n : Int) := by omega
      have hk0 : (0 : Int) ≤ (k : Int) := by omega
      have Hdr : Hid (d.writeAll (bodyL y.body S) = if (d'.write ((y.body : Int) + (k : Int)) zeroSec).2 = 0 then Dk.writeAll (d'.write ((y.body : Int) + (k : Int)) zeroSec).1 (bodyL (y.body + (k + 1)) (S.drop (k + 1))) else d'.write ((y.body : Int) + (k : Int)) zeroSec) := by
        show _ = _
        rw [HE.out, bodyL_cons (s := zeroSec) (by rw [← HS.out, List.getElem?_replicate, if_pos hlt])]
        rfl
      have HT2 := Lib.hid hT
      clear hT
      have hjr := HT2.out.row HJ.out.row HJ.out.apart
      have j0 := hjr.cell (i := 0) rfl
      have j10 := hjr.cell (i := 10) rfl
      have hwr : IntKind.i64.wrap ((y.body : Int) + (k : Int)) = (y.body : Int) + (k : Int) := IntWalk.i64_in _ (by omega)
      clear hjr
      go_wp2_with fail
      refine wp_region_still_tail 12 (by kernel_rfl) (by kernel_rfl) ?_
      simp only [List.take_succ_cons, List.take_zero, List.drop_succ_cons, List.drop_zero]
      iterate 11 still_step
      refine wpStill_exec (.agg zeroSec.cs.toArray) rfl (by exact exec_built 23 #[] rfl zeroSec.cs Try.built0) ?_
      refine wpStill_nil ?_
      change wpList _ _ _ _ _ wr.drew
      have HT3 := Lib.hid HT2.out.drew
      clear HT2 j0 j10
      go_wp2_with fail
      refine (HT3.out.write HJ.out.size ((y.body : Int) + (k : Int)) zeroSec HF.out (by omega)).mono ?_
      rintro e w3 ⟨rfl, hT4⟩
      have HT4 := Lib.hid hT4
      have HF4 := Lib.hid (Keeps.write ((y.body : Int) + (k : Int)) zeroSec T d' (N + k) HF.out (by omega))
      clear hT4 HT3 hwr
      by_cases hz : (d'.write ((y.body : Int) + (k : Int)) zeroSec).2 = 0
      · rw [hz]
        go_wp2_with fail
        go_roundw
        case rel => exact ⟨k + 1, by omega, by go_num, _, HT4.out, HF4.out, by rw [Hdr.out, if_pos hz]⟩
        case measure => simp [intOf]; omega
      · go_wp2_with fail
        go_ret
        rw [Hdr.out, if_neg hz]
        exact ⟨rfl, HT4.out⟩
    · obtain rfl : k = n := by omega
      have hdr : S.drop k = [] := List.drop_eq_nil_of_le (by rw [← HS.out, List.length_replicate]; exact Nat.le_refl _)
      go_wp2_with fail
      go_ret
      rw [HE.out, hdr]
      exact ⟨rfl, hT⟩
end Go.Proofs.Ytgkmbnmelepenaa
namespace Go.Proofs.Ytgkmbnmelepenaa
open Go.RowKit
set_option linter.unusedVariables false
set_option linter.unusedSimpArgs false

section
variable {W : World} {p s gj : Nat} {A : Option Addr} {n c : Nat} {r : Int} {R : World → Prop}
set_option maxRecDepth 100000 in
theorem jc1_any (h1 : One W p (.pointer (some ⟨gj, 0, none⟩)) 26) (h2 : One W s (.slice A n c) 33)
    (hc : Calls Try.prog 72 #[.pointer (some ⟨gj, 0, none⟩), .slice A n c] W fun e W' => e = .returned (.int .i64 r) ∧ R W') :
    Calls Try.prog 71 #[.pointer (some ⟨p, 0, none⟩), .pointer (some ⟨s, 0, none⟩)] W fun e W' => e = .returned (.int .i64 r) ∧ R W' := by
  have c1 := h1.cell
  have c2 := h2.cell
  have HC := Lib.hid hc
  clear hc h1 h2
  go_enter Try.func71, Try.ntmps71
  go_wp2_with fail
  refine HC.out.mono ?_
  rintro e w1 ⟨rfl, hR⟩
  go_wp2_with fail
  go_ret
  exact ⟨rfl, hR⟩
set_option maxRecDepth 100000 in
theorem jk1_any (h1 : One W p (.pointer (some ⟨gj, 0, none⟩)) 26) (h2 : One W s (.slice A n c) 33)
    (hc : Calls Try.prog 49 #[.pointer (some ⟨gj, 0, none⟩), .slice A n c] W fun e W' => e = .returned (.int .i64 r) ∧ R W') :
    Calls Try.prog 48 #[.pointer (some ⟨p, 0, none⟩), .pointer (some ⟨s, 0, none⟩)] W fun e W' => e = .returned (.int .i64 r) ∧ R W' := by
  have c1 := h1.cell
  have c2 := h2.cell
  have HC := Lib.hid hc
  clear hc h1 h2
  go_enter Try.func48, Try.ntmps48
  go_wp2_with fail
  refine HC.out.mono ?_
  rintro e w1 ⟨rfl, hR⟩
  go_wp2_with fail
  go_ret
  exact ⟨rfl, hR⟩
set_option maxRecDepth 100000 in
theorem jk3_any (h1 : One W p (.pointer (some ⟨gj, 0, none⟩)) 26) (h2 : One W s (.slice A n c) 33)
    (hc : Calls Try.prog 54 #[.pointer (some ⟨gj, 0, none⟩), .slice A n c] W fun e W' => e = .returned (.int .i64 r) ∧ R W') :
    Calls Try.prog 53 #[.pointer (some ⟨p, 0, none⟩), .pointer (some ⟨s, 0, none⟩)] W fun e W' => e = .returned (.int .i64 r) ∧ R W' := by
  have c1 := h1.cell
  have c2 := h2.cell
  have HC := Lib.hid hc
  clear hc h1 h2
  go_enter Try.func53, Try.ntmps53
  go_wp2_with fail
  refine HC.out.mono ?_
  rintro e w1 ⟨rfl, hR⟩
  go_wp2_with fail
  go_ret
  exact ⟨rfl, hR⟩
end

set_option maxRecDepth 100000 in
set_option maxHeartbeats 1000000 in
theorem jc2_any (w W : World) (base : Nat) (L : List Nat) (g gj p : Nat) (q : Lq) (y : Jl) (d : Dk) (T N : Nat) (h1 : One W p (.pointer (some ⟨gj, 0, none⟩)) 26) (hr : RowV W gj 84 (jcs g q y)) (hb : base ≤ w.heap.size) (ht : Turned w base L g d W) (hf : Fit T d N) (hN : N < 1000000) :
    Calls Try.prog 73 #[.pointer (some ⟨p, 0, none⟩)] W fun e W' => e = .returned (.int .i64 (d.write y.head zeroSec).2) ∧ Turned w base L g (d.write y.head zeroSec).1 W' := by
  have c1 := h1.cell
  have j0 := hr.cell (i := 0) rfl
  have j9 := hr.cell (i := 9) rfl
  have HT := Lib.hid ht
  have HF := Lib.hid hf
  clear h1 hr ht hf
  go_enter Try.func73, Try.ntmps73
  go_wp2_with fail
  refine wp_region_still_tail 10 (by kernel_rfl) (by kernel_rfl) ?_
  simp only [List.take_succ_cons, List.take_zero, List.drop_succ_cons, List.drop_zero]
  iterate 9 still_step
  refine wpStill_exec (.agg zeroSec.cs.toArray) rfl (by exact exec_built 23 #[] rfl zeroSec.cs Try.built0) ?_
  refine wpStill_nil ?_
  change wpList _ _ _ _ _ W.drew
  have HT3 := Lib.hid HT.out.drew
  clear HT c1 j0 j9
  go_wp2_with fail
  refine (HT3.out.write hb (y.head : Int) zeroSec HF.out hN).mono ?_
  rintro e w3 ⟨rfl, hT4⟩
  have HT4 := Lib.hid hT4
  clear hT4
  go_wp2_with fail
  go_ret
  exact ⟨rfl, HT4.out⟩
end Go.Proofs.Ytgkmbnmelepenaa
namespace Go.Proofs.Ytgkmbnmelepenaa
open Go.RowKit
set_option linter.unusedVariables false
set_option linter.unusedSimpArgs false

section
variable {w w1 W W' : World} {base g gj : Nat} {L : List Nat} {d d' : Dk} {q : Lq} {y : Jl} {A : Option Addr}
theorem Jr.below (h : Jr w base L g gj q y d) (hb : Below w.heap.size w W) : Jr W base L g gj q y d := ⟨h.disk.below hb, h.row.below h.row.lt hb, h.apart, Nat.le_trans h.size hb.size⟩
theorem Jr.drew (h : Jr w base L g gj q y d) : Jr w.drew base L g gj q y d := ⟨h.disk.drew, h.row, h.apart, h.size⟩
theorem Chs.below {l : List ChI} (h : Chs w L A l) (hb : Below w.heap.size w W) : Chs W L A l := ⟨(h.lies.below hb).le hb.size, h.apart⟩
theorem Turned.of (hb : Below w.heap.size w w1) (h : Turned w1 base L g d W) : Turned w base L g d W := Turned.trans (But.of L hb) (fun k hk => .inl hk) h
theorem Turned.jr (h : Turned w base L g d' W) (hJ : Jr w base L g gj q y d) : ∃ L', Jr W base L' g gj q y d' ∧ (∀ A l, Chs w L A l → Chs W L' A l) ∧ (∀ d2 W2, Turned W base L' g d2 W2 → Turned w base L g d2 W2) := by
  have hrow := h.row hJ.row hJ.apart
  obtain ⟨L', h1, h2, h3⟩ := h
  refine ⟨L', ⟨h1, hrow, fun hm => ?_, Nat.le_trans hJ.size h2.size⟩, fun A l hc => ⟨fun hx => ?_, fun hl a ha hm => ?_⟩, fun d2 W2 ht => Turned.trans h2 h3 ht⟩
  · rcases h3 _ hm with hm | hm
    · exact hJ.apart hm
    · have := hJ.row.lt; omega
  · obtain ⟨b, o, hA, hb, hcell⟩ := hc.lies hx
    have hl : l ≠ [] := by rintro rfl; exact hx rfl
    refine ⟨b, o, hA, Nat.lt_of_lt_of_le hb h2.size, fun i v hv => ?_⟩
    have hba := hc.apart hl _ hA
    rw [← hcell i v hv]
    exact World.cell?_of_block (h2.block b hb hba)
  · obtain ⟨b, o, hA, hb, hcell⟩ := hc.lies (fun e => by have := chis_length l; rw [e] at this; cases l with | nil => exact hl rfl | cons _ _ => simp at this)
    rw [ha] at hA
    injection hA with hA
    subst hA
    rcases h3 _ hm with hm | hm
    · exact hc.apart hl _ ha hm
    · simp only at hm; omega
theorem LiesV.of_row {G : Nat} {t : TypeId} {cs : List Value} (h : RowV w G t cs) : LiesV w w.heap.size (some ⟨G, 0, none⟩) cs :=
  fun _ => ⟨G, 0, rfl, h.lt, fun i v hv => by rw [Nat.zero_add]; exact h.cell hv⟩
end

set_option maxRecDepth 100000 in
set_option maxHeartbeats 1000000 in
theorem jscrub_any (w : World) (base : Nat) (L : List Nat) (g gj : Nat) (q : Lq) (y : Jl) (d : Dk) (T N : Nat) (hJ : Jr w base L g gj q y d) (hy : y.Ok) (hf : Fit T d N) (hN : N + 10000 < 1000000) :
    Calls Try.prog 31 #[.pointer (some ⟨gj, 0, none⟩)] w fun e w' => e = .returned (.int .i64 (scrubD y d).2) ∧ Turned w base L g (scrubD y d).1 w' := by
  have HJ := Lib.hid hJ
  have Hf := Lib.hid hf
  have Hy := Lib.hid hy
  have j0 := hJ.row.cell (i := 0) rfl
  clear hJ hf hy
  go_enter Try.func31, Try.ntmps31
  go_wp2_with fail
  generalize hG : w.heap.size = G at *
  generalize hW : w.alloc _ = w1
  have hb1 : Below w.heap.size w w1 := by rw [← hW]; exact (Below.refl _ _).alloc (Nat.le_refl _) _
  have hr1 : RowV w1 G 69 ([((60 : FuncId), #[Value.pointer (some ⟨gj, 0, none⟩)], #[]), ((50 : FuncId), #[Value.pointer (some ⟨g, 0, none⟩)], #[])].map fnV) := by
    rw [← hW, ← hG]
    exact RowV.new w _ _
  clear hW j0
  have HJ1 := Lib.hid (HJ.out.below hb1)
  have Hb1 := Lib.hid hb1
  have Hr1 := Lib.hid hr1
  have HG : G ∉ L := fun hm => by have := (HJ.out.disk.lt hm).2; omega
  clear hb1 hr1
  refine (jorder_any [((60 : FuncId), #[Value.pointer (some ⟨gj, 0, none⟩)], #[]), ((50 : FuncId), #[Value.pointer (some ⟨g, 0, none⟩)], #[])] [fun d => d.writeAll (bodyL y.body (List.replicate y.room zeroSec)), Dk.flush] (fun k d W => k ≤ 2 ∧ Turned w1 base L g d W ∧ Fit T d (N + k * 2000)) (some ⟨G, 0, none⟩) 2 2 rfl rfl (by decide) ?_ ?_ ?_ d w1 ?_).mono ?_
  · rintro k d W ⟨_, ht, _⟩
    exact LiesV.of_row (ht.row Hr1.out HG)
  · intro f hf
    simp only [List.mem_cons, List.not_mem_nil, or_false] at hf
    rcases hf with rfl | rfl
    · exact ent Try.func60 (by kernel_rfl) rfl
    · exact ent Try.func50 (by kernel_rfl) rfl
  · rintro k f s h1 h2 d W ⟨_, ht, hf⟩
    have hr := Hy.out.room
    obtain ⟨L', hJ', hC', hT'⟩ := ht.jr HJ1.out
    rcases k with _ | _ | k
    · have e1 := Option.some.inj h1
      have e2 := Option.some.inj h2
      subst e1 e2
      refine (jblank_any W base L' g gj q y d T (N + 0 * 2000) hJ' Hy.out hf (by omega)).mono ?_
      rintro e W' ⟨rfl, ht'⟩
      refine ⟨rfl, by omega, hT' _ _ ht', ?_⟩
      have := Keeps.writeAll (bodyL y.body (List.replicate y.room zeroSec)) T d _ hf (by rw [bodyL_length, List.length_replicate]; omega)
      rw [bodyL_length, List.length_replicate] at this
      exact this.mono (by omega)
    · have e1 := Option.some.inj h1
      have e2 := Option.some.inj h2
      subst e1 e2
      refine (ht.flush hf).mono ?_
      rintro e W' ⟨rfl, ht'⟩
      exact ⟨rfl, by omega, ht', (Keeps.flush T d _ hf (by omega)).mono (by omega)⟩
    · simp at h1
  · exact ⟨by omega, Turned.refl HJ1.out.disk, Hf.out.mono (by omega)⟩
  · rintro e w2 ⟨rfl, k, hk, ht, _⟩
    have HT := Lib.hid (Turned.of Hb1.out ht)
    clear ht
    go_wp2_with fail
    go_ret
    exact ⟨rfl, HT.out⟩
end Go.Proofs.Ytgkmbnmelepenaa
namespace Go.Proofs.Ytgkmbnmelepenaa
open Go.RowKit
set_option linter.unusedVariables false
set_option linter.unusedSimpArgs false

theorem boxes2 {w w1 : World} {v1 v2 : Value} {t1 t2 : TypeId} (h : (w.alloc (.cells #[v1] t1)).alloc (.cells #[v2] t2) = w1) : Below w.heap.size w w1 ∧ w1.heap.size = w.heap.size + 2 ∧ One w1 w.heap.size v1 t1 ∧ One w1 (w.heap.size + 1) v2 t2 := by
  subst h
  refine ⟨((Below.refl _ _).alloc (Nat.le_refl _) _).alloc (by simp) _, by simp, (One.new w _ _).alloc _, ?_⟩
  have := One.new (w.alloc (.cells #[v1] t1)) v2 t2
  simp only [World.size_alloc] at this
  exact this

set_option maxRecDepth 100000 in
set_option maxHeartbeats 1000000 in
theorem jcomplete_any (w : World) (base : Nat) (L : List Nat) (g gj : Nat) (q : Lq) (y : Jl) (d : Dk) (l : List ChI) (A : Option Addr) (n c T N : Nat) (hJ : Jr w base L g gj q y d) (hy : y.Ok) (hl : Chs w L A l) (hn : n = l.length) (hnn : n ≤ 1000) (hf : Fit T d N) (hN : N + 20000 < 1000000) :
    Calls Try.prog 54 #[.pointer (some ⟨gj, 0, none⟩), .slice A n c] w fun e w' => e = .returned (.int .i64 (completeD y l d).2) ∧ Turned w base L g (completeD y l d).1 w' := by
  have HJ := Lib.hid hJ
  have HL := Lib.hid hl
  have Hn := Lib.hid hn
  have Hf := Lib.hid hf
  have Hy := Lib.hid hy
  clear hJ hf hy hl hn
  go_enter Try.func54, Try.ntmps54
  go_wp2_with fail
  generalize hP : w.heap.size = p at *
  generalize hW : (w.alloc _).alloc _ = w1
  obtain ⟨hb1, hs1, h1, h2⟩ := boxes2 hW
  rw [hP] at hs1 h1 h2
  have HJ1 := Lib.hid (HJ.out.below hb1)
  have HL1 := Lib.hid (HL.out.below hb1)
  have Hb1 := Lib.hid hb1
  have c1 := h1.cell
  have c2 := h2.cell
  have j0 := HJ1.out.row.cell (i := 0) rfl
  have H1 := Lib.hid h1
  have H2 := Lib.hid h2
  have hpL : p ∉ L ∧ p + 1 ∉ L := ⟨fun hm => by have := (HJ.out.disk.lt hm).2; omega, fun hm => by have := (HJ.out.disk.lt hm).2; omega⟩
  clear hW hb1 h1 h2
  go_wp2_with fail
  refine wp_region_still_tail 14 (by kernel_rfl) (by kernel_rfl) ?_
  simp only [List.take_succ_cons, List.take_zero, List.drop_succ_cons, List.drop_zero]
  iterate 14 still_step
  refine wpStill_nil ?_
  change wpList _ _ _ _ _ w1.drew
  clear c1 c2 j0
  go_wp2_with fail
  generalize hW : (w1.alloc _).drew = w2
  have hb2 : Below w1.heap.size w1 w2 := by rw [← hW]; exact ((Below.refl _ _).alloc (Nat.le_refl _) _).drew
  have hs2 : w2.heap.size = p + 3 := by rw [← hW]; simp [hs1]
  have hr2 : RowV w2 (p + 2) 69 ([((71 : FuncId), #[], #[Value.pointer (some ⟨p, 0, none⟩), Value.pointer (some ⟨p + 1, 0, none⟩)]), ((50 : FuncId), #[Value.pointer (some ⟨g, 0, none⟩)], #[]), ((73 : FuncId), #[], #[Value.pointer (some ⟨p, 0, none⟩)]), ((50 : FuncId), #[Value.pointer (some ⟨g, 0, none⟩)], #[]), ((31 : FuncId), #[Value.pointer (some ⟨gj, 0, none⟩)], #[])].map fnV) := by
    rw [← hW, ← hs1]
    exact RowV.new w1 _ _
  clear hW
  have HJ2 := Lib.hid (HJ1.out.below hb2)
  have HL2 := Lib.hid (HL1.out.below hb2)
  have Hb2 := Lib.hid (below_seq Hb1.out hb2)
  have Hr2 := Lib.hid hr2
  have K1 := Lib.hid (H1.out.below hb2 (by omega))
  have K2 := Lib.hid (H2.out.below hb2 (by omega))
  have HG : p + 2 ∉ L := fun hm => by have := (HJ.out.disk.lt hm).2; omega
  clear hb2 hr2 HJ1 HL1 Hb1 H1 H2
  refine (jorder_any [((71 : FuncId), #[], #[Value.pointer (some ⟨p, 0, none⟩), Value.pointer (some ⟨p + 1, 0, none⟩)]), ((50 : FuncId), #[Value.pointer (some ⟨g, 0, none⟩)], #[]), ((73 : FuncId), #[], #[Value.pointer (some ⟨p, 0, none⟩)]), ((50 : FuncId), #[Value.pointer (some ⟨g, 0, none⟩)], #[]), ((31 : FuncId), #[Value.pointer (some ⟨gj, 0, none⟩)], #[])] [fun d => d.writeAll l, Dk.flush, fun d => d.write y.head zeroSec, Dk.flush, scrubD y] (fun k d W => k ≤ 5 ∧ Turned w2 base L g d W ∧ Fit T d (N + k * 2000)) (some ⟨p + 2, 0, none⟩) 5 5 rfl rfl (by decide) ?_ ?_ ?_ d w2 ?_).mono ?_
  · rintro k d W ⟨_, ht, _⟩
    exact LiesV.of_row (ht.row Hr2.out HG)
  · intro f hf
    simp only [List.mem_cons, List.not_mem_nil, or_false] at hf
    rcases hf with rfl | rfl | rfl | rfl | rfl
    · exact ent Try.func71 (by kernel_rfl) rfl
    · exact ent Try.func50 (by kernel_rfl) rfl
    · exact ent Try.func73 (by kernel_rfl) rfl
    · exact ent Try.func50 (by kernel_rfl) rfl
    · exact ent Try.func31 (by kernel_rfl) rfl
  · rintro k f s h1 h2 d W ⟨hk5, ht, hf⟩
    have hk : k < 5 := (List.getElem?_eq_some_iff.1 h1).1
    have hr := Hy.out.room
    have hN2 : N + k * 2000 + 10000 < 1000000 := by omega
    obtain ⟨L', hJ', hC', hT'⟩ := ht.jr HJ2.out
    have o1 : One W p _ _ := ht.row (w := w2) (cs := [_]) K1.out hpL.1
    have o2 : One W (p + 1) _ _ := ht.row (w := w2) (cs := [_]) K2.out hpL.2
    rcases k with _ | _ | _ | _ | _ | k
    · have e1 := Option.some.inj h1
      have e2 := Option.some.inj h2
      subst e1 e2
      refine (jc1_any o1 o2 (jhome_any W base L' g gj q y d l A n c T (N + 0 * 2000) hJ' (hC' _ _ HL2.out) Hn.out hnn hf (by omega))).mono ?_
      rintro e W' ⟨rfl, ht'⟩
      have hn := Hn.out
      exact ⟨rfl, by omega, hT' _ _ ht', (Keeps.writeAll l T d _ hf (by omega)).mono (by omega)⟩
    · have e1 := Option.some.inj h1
      have e2 := Option.some.inj h2
      subst e1 e2
      refine (ht.flush hf).mono ?_
      rintro e W' ⟨rfl, ht'⟩
      exact ⟨rfl, by omega, ht', (Keeps.flush T d _ hf (by omega)).mono (by omega)⟩
    · have e1 := Option.some.inj h1
      have e2 := Option.some.inj h2
      subst e1 e2
      refine (jc2_any w2 W base L g gj p q y d T _ o1 hJ'.row HJ2.out.size ht hf (by omega)).mono ?_
      rintro e W' ⟨rfl, ht'⟩
      exact ⟨rfl, by omega, ht', (Keeps.write (y.head : Int) zeroSec T d _ hf (by omega)).mono (by omega)⟩
    · have e1 := Option.some.inj h1
      have e2 := Option.some.inj h2
      subst e1 e2
      refine (ht.flush hf).mono ?_
      rintro e W' ⟨rfl, ht'⟩
      exact ⟨rfl, by omega, ht', (Keeps.flush T d _ hf (by omega)).mono (by omega)⟩
    · have e1 := Option.some.inj h1
      have e2 := Option.some.inj h2
      subst e1 e2
      refine (jscrub_any W base L' g gj q y d T _ hJ' Hy.out hf (by omega)).mono ?_
      rintro e W' ⟨rfl, ht'⟩
      exact ⟨rfl, by omega, hT' _ _ ht', (scrub_keeps y T d _ hf (by omega)).mono (by omega)⟩
    · omega
  · exact ⟨by omega, Turned.refl HJ2.out.disk, Hf.out.mono (by omega)⟩
  · rintro e w3 ⟨rfl, k, hk, ht, _⟩
    have HT := Lib.hid (Turned.of Hb2.out ht)
    clear ht
    go_wp2_with fail
    go_ret
    exact ⟨rfl, HT.out⟩
end Go.Proofs.Ytgkmbnmelepenaa
