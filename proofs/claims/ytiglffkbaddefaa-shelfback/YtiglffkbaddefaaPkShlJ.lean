/-
  Layer 12: the contract of Get.
  Layer 12, mathematics: sectors read back; a sealed sector with another first byte is none; a table with one entry.
  Layer 12: the laws' own works.
  Layer 12: the contract of the law ShelfForgets.
  Layer 12: the contract of the reference's one.
-/
import Derived.Test.YtiglffkbaddefaaPkShlE
import Derived.Test.YtiglffkbaddefaaPkShlF
import Derived.Test.YtiglffkbaddefaaPkShlG
import Derived.Test.YtiglffkbaddefaaPkTabK
import Derived.Test.YtiglffkbaddefaaPkTabF
namespace Go.Proofs.Ytiglffkbaddefaa
open Go.RowKit Go.Shelf
set_option linter.unusedVariables false
set_option linter.unusedSimpArgs false

/-- The places that sectors are; sectors that are a table's. -/
def readS (l : List Sec) : List Ent := readP (l.map (·.1))
theorem readS_length (l : List Sec) : (readS l).length = l.length * 6 := by rw [readS, readP_length, List.length_map]
theorem readS_fits (l : List Sec) : ∀ e ∈ readS l, e.fits := readP_fits _
theorem readS_snoc {l : List Sec} {k : Nat} {s : Sec} (h : l[k]? = some s) : readS (l.take (k + 1)) = readS (l.take k) ++ unSix s.1 := by
  have : l.take (k + 1) = l.take k ++ [s] := by rw [List.take_add_one, h]; rfl
  rw [this]
  simp [readS, readP, List.flatMap_append]
def ShOK (l : List Sec) : Prop := TabOK (readS l) ∧ shelfL (readS l) l.length = l
/-- What Get answers. -/
def ShGetP (w w' : World) (l : List Sec) (e : Ending) : Prop :=
  (1 ≤ l.length ∧ l.length ≤ 67 ∧ ShOK l ∧ ∃ b g c, e = .returned (.tuple #[.pointer (some ⟨b, 0, none⟩), .int .i64 0]) ∧ TabAt w' b g c (l.length * 6) (readS l) ∧ w.heap.size ≤ b ∧ w.heap.size ≤ g) ∨
  (1 ≤ l.length ∧ l.length ≤ 67 ∧ ¬ ShOK l ∧ e = .returned (.tuple #[.pointer none, .int .i64 5])) ∨
  (¬ (1 ≤ l.length ∧ l.length ≤ 67) ∧ e = .returned (.tuple #[.pointer none, .int .i64 2]))

set_option maxRecDepth 100000 in
set_option maxHeartbeats 8000000 in
theorem shget_any (w : World) (B n c : Nat) (A : Option Addr) (l : List Sec) (h : LiesV w B A (secs l)) (hn : n = l.length) (hB : B ≤ w.heap.size) (hc : n ≤ c) (hle : n ≤ 1000000) :
    Calls Try.prog 15 #[.slice A n c] w fun e w' => ShGetP w w' l e ∧ Below w.heap.size w w' := by
  have HL := Lib.hid h
  have Hn := Lib.hid hn
  clear h hn
  by_cases hr : 1 ≤ n ∧ n ≤ 67
  · obtain ⟨hr1, hr2⟩ := hr
    have hd1 : ((n : Int) == 0) = false := by rw [beq_eq_false_iff_ne]; omega
    obtain ⟨N, hN⟩ : ∃ N, w.heap.size = N := ⟨_, rfl⟩
    have HB0 : Hid (Below N w w) := Below.refl _ _
    have HO0 : Hid (w.ownsRow N 32 34 (.slice none 0 0) 0 (ents (readS (l.take 0)))) := World.ownsRow_nil _ _ _ _
    have hNs : N ≤ w.heap.size := by omega
    rw [hN] at hB
    go_enter Try.func15, Try.ntmps15
    go_wp2_with fail
    go_loopw [4, 21] (fun v4 v W => ∃ k : Nat, k ≤ n ∧ v = .int .i64 k ∧ Hid (W.ownsRow N 32 34 v4 (k * 6) (ents (readS (l.take k)))) ∧ Hid (Below N w W) ∧ Hid (N ≤ W.heap.size)) (fun _ v _ => n - (intOf v).toNat)
    case atStart => exact ⟨0, Nat.zero_le _, rfl, HO0, HB0, hNs⟩
    case round =>
      obtain ⟨k, hk, rfl, HO, HB, HZ⟩ := hrel
      clear HO0 HB0 hNs
      by_cases hlt : k < n
      · have hlt' : (k : Int) < (n : Int) := by omega
        have hk0 : (0 : Int) ≤ (k : Int) := by omega
        obtain ⟨s, hs⟩ : ∃ s, l[k]? = some s := ⟨_, List.getElem?_eq_getElem (by rw [← Hn.out]; exact hlt)⟩
        obtain ⟨b, o, hA, hb, hra⟩ := lies_sec (HL.out.below (HB.out.mono hB)) hs
        subst hA
        have Hra := Lib.hid hra
        have Hse := Lib.hid (sec_size s)
        have Hsn := Lib.hid (readS_snoc hs)
        obtain ⟨NE, hNE⟩ : ∃ NE, wr.heap.size = NE := ⟨_, rfl⟩
        have hz : N ≤ NE := by rw [← hNE]; exact HZ.out
        clear hra hs
        go_wp2_with (first
          | ((with_reducible refine at_load 43 ?_); refine wpList_load_mid rfl 43 _ rfl b (o + k * 256) rfl s.cs _ Hra.out Try.underlying43 rfl Hse.out ?_)
          | ((with_reducible refine at_alloc 43 ?_); refine alloc_sec rfl rfl ?_; intro w3 hr3 hb3 hs3; rw [hNE] at hr3 hb3 ⊢)
          | ((with_reducible refine at_store 43 ?_); refine store_sec rfl _ _ rfl NE s rfl rfl hr3 (Sec.cs_length _) ?_; intro w4 hr4 hg4 hs4; have hb4 : Below NE wr w4 := below_grown hb3 hg4 (Nat.le_refl _) (by have := hb3.size; omega); have HO4 := Lib.hid (own_below HO.out (by rw [hNE]; exact hb4)); have HB4 : Hid (Below N w w4) := HB.out.trans (hb4.mono hz); have hz4 : N ≤ w4.heap.size := (by have := hb4.size; omega); clear hr3 hb3 hs3 hg4 hs4 HO HB)
          | ((with_reducible refine at_load 43 ?_); refine load_sec rfl _ rfl NE rfl hr4 ?_))
        refine (sentries_any w4 s).mono ?_
        rintro e w5 ⟨g5, rfl, ho5, hb5⟩
        have HO5 := Lib.hid (own_below HO4.out hb5)
        have HB5 : Hid (Below N w w5) := HB4.out.trans (hb5.mono hz4)
        have hz5 : N ≤ w5.heap.size := by have := hb5.size; omega
        clear HO4 HB4 hb5 hb4 hr4
        go_wp2_with (at_builtin; refine wpList_append_rows rfl _ _ 22 rfl N 32 Try.underlying22 Try.infoE rfl (by decide) _ (k * 6) (ents (readS (l.take k))) rfl HO5.out _ _ 6 (ents (unSix s.1)) rfl ho5 (ents_one _) (by unfold maxLen; omega) (by omega) hz5 ?_)
        intro v6 w6 ho6 hg6 _
        rw [← ents_append, ← Hsn.out, show k * 6 + 6 = (k + 1) * 6 by omega] at ho6
        have HO6 := Lib.hid ho6
        have HB6 : Hid (Below N w w6) := HB5.out.grown hg6 hz5 (fun j e => by have := own_ge HO5.out j e; omega)
        have hz6 : Hid (N ≤ w6.heap.size) := by show _ ≤ _; have := hg6.size; omega
        clear HO5 HB5 ho5 ho6 hg6
        go_wp2_with fail
        go_roundw
        case rel => exact ⟨k + 1, by omega, by go_num, HO6, HB6, hz6⟩
        case measure => simp [intOf]; omega
      · obtain rfl : k = n := by omega
        have ho := HO.out
        rw [List.take_of_length_le (by rw [← Hn.out]; exact Nat.le_refl _)] at ho
        obtain ⟨A4, c4, rfl, hlen4, hcap4, hmax4, hl4⟩ := lies_ownE ho
        have HL4 := Lib.hid hl4
        have Hlen4 := Lib.hid hlen4
        clear ho hl4 hlen4 HO
        go_wp2_with fail
        refine (tof_any wr wr.heap.size (k * 6) c4 A4 (readS l) HL4.out Hlen4.out (Nat.le_refl _) hcap4 (by omega)).mono ?_
        rintro e w5 ⟨hof, hb5⟩
        have HB5 : Hid (Below N w w5) := HB.out.trans (hb5.mono HZ.out)
        have hz5 : N ≤ w5.heap.size := by have := hb5.size; have := HZ.out; omega
        have HZ' := HZ.out
        clear HB hb5
        rcases hof with ⟨hok, b, g, c5, rfl, hT5, hb, hg⟩ | ⟨hno, rfl⟩
        · rw [← Hlen4.out] at hT5
          have HT5 := Lib.hid hT5
          have Hok := Lib.hid hok
          have hbN : N ≤ b := by omega
          have hgN : N ≤ g := by omega
          clear hT5 hok hb hg HL4
          go_wp2_with fail
          refine (shput_yes w5 b g c5 k (readS l) HT5.out (readS_fits l)).mono ?_
          rintro e w6 ⟨v6, rfl, ho6, hb6⟩
          obtain ⟨A6, c6, rfl, hlen6, hcap6, hmax6, hl6⟩ := lies_ownS ho6
          have HL6 := Lib.hid hl6
          have Hlen6 := Lib.hid hlen6
          have HT6 := Lib.hid (HT5.out.later hb6)
          have HB6 : Hid (Below N w w6) := HB5.out.trans (hb6.mono hz5)
          have hz6 : N ≤ w6.heap.size := by have := hb6.size; omega
          have HLw := Lib.hid ((HL.out.below (HB6.out.mono hB)).le (show B ≤ w6.heap.size by omega))
          clear HT5 HB5 hl6 hlen6 ho6 hb6
          go_wp2_with fail
          refine (equal12_any w6 w6.heap.size k c6 k c A6 A (shelfL (readS l) k) l HL6.out HLw.out Hlen6.out Hn.out (Nat.le_refl _) (by omega) (by omega) hcap6 hc).mono ?_
          rintro e w7 ⟨rfl, hb7⟩
          have HT7 := Lib.hid (HT6.out.later hb7)
          have HB7 : Hid (Below N w w7) := HB6.out.trans (hb7.mono hz6)
          clear HT6 HB6 hb7
          by_cases he : shelfL (readS l) k = l
          · rw [decide_eq_true he]
            have Hp : Hid (ShOK l) := ⟨Hok.out, by rw [← Hn.out]; exact he⟩
            clear he
            go_wp2_with fail
            go_ret2
            refine ⟨.inl ⟨by rw [← Hn.out]; exact hr1, by rw [← Hn.out]; exact hr2, Hp.out, b, g, c5, rfl, ?_, by rw [hN]; exact hbN, by rw [hN]; exact hgN⟩, by rw [hN]; exact HB7.out⟩
            rw [← Hn.out]
            exact HT7.out
          · rw [decide_eq_false he]
            have Hp : Hid (¬ ShOK l) := fun h0 => he (by rw [Hn.out]; exact h0.2)
            clear he
            go_wp2_with fail
            go_ret2
            exact ⟨.inr (.inl ⟨by rw [← Hn.out]; exact hr1, by rw [← Hn.out]; exact hr2, Hp.out, rfl⟩), by rw [hN]; exact HB7.out⟩
        · have Hp : Hid (¬ ShOK l) := fun h0 => hno h0.1
          clear hno HL4
          go_wp2_with fail
          go_ret2
          exact ⟨.inr (.inl ⟨by rw [← Hn.out]; exact hr1, by rw [← Hn.out]; exact hr2, Hp.out, rfl⟩), by rw [hN]; exact HB5.out⟩
  · have Hp : Hid (¬ (1 ≤ l.length ∧ l.length ≤ 67)) := by rw [← Hn.out]; exact hr
    by_cases h0 : n = 0
    · have hd1 : ((n : Int) == 0) = true := by rw [beq_iff_eq]; omega
      clear hr
      go_enter Try.func15, Try.ntmps15
      go_wp2_with fail
      go_ret2
      exact ⟨.inr (.inr ⟨Hp.out, rfl⟩), Below.refl _ _⟩
    · have hd1 : ((n : Int) == 0) = false := by rw [beq_eq_false_iff_ne]; omega
      have hd2 : (67 : Int) < (n : Int) := by omega
      clear hr
      go_enter Try.func15, Try.ntmps15
      go_wp2_with fail
      go_ret2
      exact ⟨.inr (.inr ⟨Hp.out, rfl⟩), Below.refl _ _⟩
end Go.Proofs.Ytiglffkbaddefaa
namespace Go.Proofs.Ytiglffkbaddefaa
open Go.RowKit
set_option linter.unusedVariables false
set_option linter.unusedSimpArgs false

theorem own_apart2 {w : World} {base base' : Nat} {e e' : TypeId} {size size' : Nat} {v v' : Value} {n n' : Nat} {xs xs' : List Value} (h : w.ownsRow base e size v n xs) (h' : w.ownsRow base' e' size' v' n' xs') (hne : e ≠ e') {k : Nat} (hk : v.ownBlock = some k) : v'.ownBlock ≠ some k :=
  own_apart (own_rebase (base' := 0) h (fun _ _ => Nat.zero_le _)) (own_rebase (base' := 0) h' (fun _ _ => Nat.zero_le _)) hne hk
theorem Ent.ok.fits {e : Ent} (h : e.ok) : e.fits := by
  obtain ⟨h1, h2, h3, h4⟩ := h
  unfold Ent.fits
  omega
theorem zero_fits : zeroEnt.fits := by unfold Ent.fits; decide
theorem Tb.fits {n : Nat} {hn : 0 < n} {l : List Ent} (h : Tb n hn l) (hok : ∀ e ∈ l, e.count ≠ 0 → e.ok) : ∀ e ∈ l, e.fits := by
  intro e he
  by_cases hc : e.count = 0
  · rw [h.zero e he hc]; exact zero_fits
  · exact (hok e he hc).fits
theorem sixAt_get {l : List Ent} {m i : Nat} (hl : l.length = m * 6) (hi : i < m) : (sixAt l i).1 = sixB l i := by
  have h6 : ((l.drop (i * 6)).take 6).length = 6 := by rw [List.length_take, List.length_drop]; omega
  unfold sixAt
  rw [sixS_one h6, sixB, Nat.mul_comm]
theorem shelfL_map {l : List Ent} {m : Nat} (hl : l.length = m * 6) : (shelfL l m).map (·.1) = shelfB l m := by
  unfold shelfL shelfB
  rw [List.map_map]
  apply List.map_congr_left
  intro i hi
  rw [List.mem_range] at hi
  exact sixAt_get hl hi
/-- There and back. -/
theorem readS_shelf {l : List Ent} {m : Nat} (hl : l.length = m * 6) (hf : ∀ e ∈ l, e.fits) : readS (shelfL l m) = l := by
  rw [readS, shelfL_map hl]
  exact readP_all (by omega) hf
theorem shelfL_inj {l l' : List Ent} {m : Nat} (hl : l.length = m * 6) (hl' : l'.length = m * 6) (hf : ∀ e ∈ l, e.fits) (hf' : ∀ e ∈ l', e.fits) (h : shelfL l m = shelfL l' m) : l = l' := by
  rw [← readS_shelf hl hf, ← readS_shelf hl' hf', h]
theorem shelf_ok {l : List Ent} {m : Nat} (hl : l.length = m * 6) (hok : TabOK l) (hf : ∀ e ∈ l, e.fits) : ShOK (shelfL l m) := by
  unfold ShOK
  rw [readS_shelf hl hf, shelfL_length]
  exact ⟨hok, rfl⟩
theorem run_inj (xs : List UInt8) : ∀ r r' : BitVec 32, run r xs = run r' xs → r = r' := by
  induction xs with
  | nil => exact fun r r' h => h
  | cons x xs ih =>
    intro r r' h
    have h1 : byteStep r x = byteStep r' x := ih _ _ h
    have h2 := stepN_inj 8 h1
    have h3 : (r ^^^ BitVec.ofNat 32 x.toNat) ^^^ BitVec.ofNat 32 x.toNat = (r' ^^^ BitVec.ofNat 32 x.toNat) ^^^ BitVec.ofNat 32 x.toNat := by rw [h2]
    rwa [BitVec.xor_assoc, BitVec.xor_assoc, BitVec.xor_self, BitVec.xor_zero, BitVec.xor_zero] at h3
theorem holds_first {b c : UInt8} {t : List UInt8} (ht : 4 ≤ t.length) (h1 : holdsB (b :: t) = true) (h2 : holdsB (c :: t) = true) : b = c := by
  have e : t = t.take (t.length - 4) ++ t.drop (t.length - 4) := (List.take_append_drop _ _).symm
  have hl : (t.drop (t.length - 4)).length = 4 := by rw [List.length_drop]; omega
  have k1 := (holdsB_iff (a := b :: t.take (t.length - 4)) hl).1 (by rw [List.cons_append, ← e]; exact h1)
  have k2 := (holdsB_iff (a := c :: t.take (t.length - 4)) hl).1 (by rw [List.cons_append, ← e]; exact h2)
  have k3 : run (byteStep (~~~ 0#32) b) t = run (byteStep (~~~ 0#32) c) t := by
    rw [List.cons_append, ← e] at k1 k2
    exact k1.trans k2.symm
  have k4 := stepN_inj 8 (run_inj t _ _ k3)
  have k5 : BitVec.ofNat 32 b.toNat = BitVec.ofNat 32 c.toNat := by
    have : (~~~ 0#32) ^^^ ((~~~ 0#32) ^^^ BitVec.ofNat 32 b.toNat) = (~~~ 0#32) ^^^ ((~~~ 0#32) ^^^ BitVec.ofNat 32 c.toNat) := by rw [k4]
    rwa [← BitVec.xor_assoc, ← BitVec.xor_assoc, BitVec.xor_self, BitVec.zero_xor, BitVec.zero_xor] at this
  have k6 := congrArg BitVec.toNat k5
  rw [BitVec.toNat_ofNat, BitVec.toNat_ofNat] at k6
  have hb := b.toNat_lt
  have hc := c.toNat_lt
  exact UInt8.toNat_inj.1 (by omega)
/-- A sector of places holds. -/
theorem six_holds {l : List Ent} (h : l.length = 6) : holdsB (sixS l).1 = true := by rw [sixS_one h]; exact holdsB_seal _
/-- A sector with another first byte. -/
def Sec.first (s : Sec) (b : UInt8) : Sec := ⟨s.1.set 0 b, by rw [List.length_set]; exact s.2⟩
theorem secs_first (s : Sec) (r : List Sec) (b : UInt8) : (secs (s :: r)).set 0 (.int .u8 (b.toNat : Int)) = secs (s.first b :: r) := by
  have h : ∀ u : Sec, secs (u :: r) = u.cs ++ secs r := fun u => by simp [secs]
  rw [h, h, List.set_append_left _ _ (by rw [Sec.cs_length]; omega)]
  congr 1
  show (cells s.1).set 0 _ = cells (s.1.set 0 b)
  unfold cells
  rw [List.map_set]
theorem first_bad {l : List Ent} {m : Nat} (hm : 0 < m) (hl : l.length = m * 6) {s : Sec} {r : List Sec} (hs : shelfL l m = s :: r) {b : UInt8} (hb : s.1[0]? ≠ some b) : ¬ ShOK (s.first b :: r) := by
  rintro ⟨_, h⟩
  obtain ⟨k, rfl⟩ : ∃ k, m = k + 1 := ⟨m - 1, by omega⟩
  have hlen : r.length = k := by
    have := congrArg List.length hs
    rw [shelfL_length, List.length_cons] at this
    omega
  have e0 : ∀ (x : List Ent) (j : Nat), (shelfL x (j + 1))[0]? = some (sixAt x 0) := fun x j => by
    unfold shelfL
    rw [List.getElem?_map, List.getElem?_range (by omega)]
    rfl
  have h1 : s = sixAt l 0 := by
    have := e0 l k
    rw [hs] at this
    exact Option.some.inj this
  obtain ⟨X, hX⟩ : ∃ X, readS (s.first b :: r) = X := ⟨_, rfl⟩
  have hXl : X.length = (k + 1) * 6 := by rw [← hX, readS_length, List.length_cons, hlen]
  rw [hX, List.length_cons, hlen] at h
  have h2 : s.first b = sixAt X 0 := by
    have := e0 X k
    rw [h] at this
    exact Option.some.inj this
  have k1 : holdsB s.1 = true := by rw [h1]; exact six_holds (by rw [List.length_take, List.length_drop]; omega)
  have k2 : holdsB (s.first b).1 = true := by rw [h2]; exact six_holds (by rw [List.length_take, List.length_drop]; omega)
  have hs2 := s.2
  obtain ⟨xs, hx⟩ := s
  match xs, hx with
  | y :: t, hx =>
    have ht : 4 ≤ t.length := by rw [List.length_cons] at hx; omega
    have := holds_first ht k1 k2
    exact hb (by rw [this]; rfl)
end Go.Proofs.Ytiglffkbaddefaa
namespace Go.Proofs.Ytiglffkbaddefaa
open Go.RowKit Go.Shelf
set_option linter.unusedVariables false
set_option linter.unusedSimpArgs false

def adr1 : Adr := ⟨1 :: List.replicate 31 0, rfl⟩
def ent1 : Ent := ⟨adr1, 3, 2⟩
theorem Try.builtA1 : Try.prog.built 30 [(0, .int .u8 1)] = some (cells adr1.1).toArray := by kernel_rfl
theorem Try.builtE1 : Try.prog.built 32 [(0, .agg (cells adr1.1).toArray), (1, .int .i64 3), (2, .int .i64 2)] = some ent1.cs.toArray := by kernel_rfl
theorem ent1_ok : ent1.ok := by decide
/-- A table of twelve places with that entry. -/
structure One12 (l : List Ent) : Prop where
  tb : Tb 12 (by decide) l
  mem : ∀ x : Ent, x.count ≠ 0 → (x ∈ l ↔ x = ent1)
  cnt : cntT l = 1
theorem one12 {l : List Ent} {code : Int} (h : PutP 12 (by decide) (List.replicate 12 zeroEnt) ent1 code l) : code = 0 ∧ One12 l := by
  have hz : ∀ f ∈ List.replicate 12 zeroEnt, f.count = 0 := fun f hf => by rw [List.eq_of_mem_replicate hf]; rfl
  have hc : cntT (List.replicate 12 zeroEnt) = 0 := by decide
  rcases h.what with ⟨h1, _⟩ | ⟨_, ⟨f, hf, hfc, _⟩, _⟩ | ⟨_, _, h1, _⟩ | ⟨_, _, _, h1, h2, h3⟩
  · exact absurd ent1_ok h1
  · exact absurd (hz f hf) hfc
  · omega
  · refine ⟨h1, h.tb, fun x hx => ?_, by omega⟩
    rw [h3 x hx]
    constructor
    · rintro (⟨h4, _⟩ | h4)
      · exact absurd (hz x h4) hx
      · exact h4
    · exact .inr
theorem One12.len {l : List Ent} (h : One12 l) : l.length = 2 * 6 := h.tb.len
theorem One12.oks {l : List Ent} (h : One12 l) : ∀ e ∈ l, e.count ≠ 0 → e.ok := fun e he hc => by rw [(h.mem e hc).1 he]; exact ent1_ok
theorem One12.fits {l : List Ent} (h : One12 l) : ∀ e ∈ l, e.fits := h.tb.fits h.oks
theorem One12.ok {l : List Ent} (h : One12 l) : TabOK l := by
  have hl := h.len
  refine ⟨by omega, by omega, ?_, h.oks⟩
  have ht := h.tb
  have : ∀ n (hn : 0 < n), n = 12 → Tb n hn l := fun n hn e => by subst e; exact ht
  exact this _ _ hl
theorem One12.shok {l : List Ent} (h : One12 l) : ShOK (shelfL l 2) := shelf_ok h.len h.ok h.fits
theorem One12.first {l : List Ent} (h : One12 l) : ∀ s r, shelfL l 2 = s :: r → s.1[0]? ≠ some 9 := by
  intro s r hs h9
  have hs0 : s = sixAt l 0 := by
    have h0 : (shelfL l 2)[0]? = some (sixAt l 0) := rfl
    rw [hs] at h0
    exact Option.some.inj h0
  have hl := h.len
  obtain ⟨e, t, rfl⟩ : ∃ e t, l = e :: t := by
    cases l with
    | nil => simp at hl
    | cons e t => exact ⟨e, t, rfl⟩
  have he : e.count = 0 ∨ e.count = 2 := by
    by_cases hc : e.count = 0
    · exact .inl hc
    · right
      rw [(h.mem e hc).1 (List.mem_cons_self ..)]
      rfl
  rw [hs0, sixAt_get hl (by omega)] at h9
  have h1 : sixB (e :: t) 0 = UInt8.ofNat e.count.toNat :: (sixB (e :: t) 0).tail := rfl
  rw [h1] at h9
  have h2 : UInt8.ofNat e.count.toNat = 9 := Option.some.inj h9
  rcases he with he | he <;> rw [he] at h2 <;> exact absurd h2 (by decide)
/-- works. -/
def Works12 : Prop := ∀ w, Calls Try.prog 6 #[] w fun e w' => e = .returned (.bool true) ∧ Below w.heap.size w w'

set_option maxRecDepth 100000 in
set_option maxHeartbeats 8000000 in
theorem works12_any : Works12 := by
  intro w
  obtain ⟨N, hN⟩ : ∃ N, w.heap.size = N := ⟨_, rfl⟩
  go_enter Try.func6, Try.ntmps6
  go_wp2_with fail
  refine (tnew_any w 12).mono ?_
  intro e w1 hnew
  unfold New11V at hnew
  rw [if_pos (by omega), show (12 : Int).toNat = 12 from rfl, hN] at hnew
  obtain ⟨b1, g1, rfl, hT1, hb1, hg1, hB1⟩ := hnew
  have HT1 := Lib.hid hT1
  have HB1 := Lib.hid hB1
  have hz1 : N ≤ w1.heap.size := by have := hB1.size; omega
  clear hT1 hB1
  go_wp2_with fail
  refine (tnew_any w1 7).mono ?_
  intro e w2 hnew
  unfold New11V at hnew
  rw [if_pos (by omega), show (7 : Int).toNat = 7 from rfl] at hnew
  obtain ⟨b2, g2, rfl, hT2, hb2, hg2, hB2⟩ := hnew
  have HU2 := Lib.hid hT2
  have HT2 : Hid (TabAt w2 b1 g1 12 12 (List.replicate 12 zeroEnt)) := HT1.out.later hB2
  have HB2 : Hid (Below N w w2) := HB1.out.trans (hB2.mono hz1)
  have hz2 : N ≤ w2.heap.size := by have := hB2.size; omega
  have hbg : b2 ≠ g1 := by have := HT1.out.glt; omega
  have hgg : g2 ≠ g1 := by have := HT1.out.glt; omega
  clear hT2 hB2 HT1 HB1 hb2 hg2
  go_wp2_with (first
    | ((with_reducible refine at_build 30 ?_); refine wpList_build_to rfl 30 _ rfl (cells adr1.1) (by rw [Array.toList_map]; exact Try.builtA1) ?_)
    | ((with_reducible refine at_build 32 ?_); refine wpList_build_to rfl 32 _ rfl ent1.cs (by rw [Array.toList_map]; exact Try.builtE1) ?_))
  refine (tput_any w2 b1 g1 12 12 (by decide) _ HT2.out (Tb.new 12 (by decide)) ent1).mono ?_
  rintro e w3 ⟨code, l, rfl, hT3, hp, hB3⟩
  obtain ⟨rfl, hl⟩ := one12 hp
  have HL := Lib.hid hl
  have HT3 : Hid (TabAt w3 b1 g1 12 (2 * 6) l) := hT3
  have HU3 : Hid (TabAt w3 b2 g2 7 7 (List.replicate 7 zeroEnt)) := HU2.out.but hB3 HU2.out.blt HU2.out.glt (by simp only [List.mem_singleton]; exact hbg) (by simp only [List.mem_singleton]; exact hgg)
  have HB3 : Hid (Below N w w3) := HB2.out.trans ((hB3.less hz2).below (fun k hk => by rw [List.mem_singleton.1 hk]; exact hg1))
  have hz3 : N ≤ w3.heap.size := by have := hB3.size; omega
  clear hT3 hp hB3 hl HT2 HU2 HB2
  go_wp2_with fail
  refine (shput_yes w3 b1 g1 12 2 l HT3.out HL.out.fits).mono ?_
  rintro e w4 ⟨v4, rfl, ho4, hb4⟩
  obtain ⟨gs, cs, rfl, hcs, hcm, hgs1, hgs2⟩ := own_form ho4 (by omega)
  have HO4 := Lib.hid ho4
  have HT4 : Hid (TabAt w4 b1 g1 12 (2 * 6) l) := HT3.out.later hb4
  have HU4 : Hid (TabAt w4 b2 g2 7 7 (List.replicate 7 zeroEnt)) := HU3.out.later hb4
  have HB4 : Hid (Below N w w4) := HB3.out.trans (hb4.mono hz3)
  have hz4 : N ≤ w4.heap.size := by have := hb4.size; omega
  have hgsN : N ≤ gs := by omega
  clear ho4 hb4 HT3 HU3 HB3 hgs1
  go_wp2_with fail
  refine (shput_no w4 b2 g2 7 7 _ HU4.out (by decide)).mono ?_
  rintro e wx ⟨rfl, hw⟩
  rw [hw]
  clear hw wx HU4
  go_wp2_with fail
  obtain ⟨A4, c4, hv4, hlen4, hcap4, hmax4, hl4⟩ := lies_ownS HO4.out
  injection hv4 with e1 e2 e3
  subst e1 e3
  clear e2
  refine (shget_any w4 w4.heap.size 2 cs (some ⟨gs, 0, none⟩) (shelfL l 2) hl4 hlen4 (Nat.le_refl _) hcap4 (by omega)).mono ?_
  rintro e w5 ⟨hget, hb5⟩
  obtain ⟨b3, g3, c3, rfl, hX5, hb3, hg3⟩ : ∃ b g c, e = .returned (.tuple #[.pointer (some ⟨b, 0, none⟩), .int .i64 0]) ∧ TabAt w5 b g c ((shelfL l 2).length * 6) (readS (shelfL l 2)) ∧ w4.heap.size ≤ b ∧ w4.heap.size ≤ g := by
    rcases hget with ⟨_, _, _, h⟩ | ⟨_, _, h, _⟩ | ⟨h, _⟩
    · exact h
    · exact absurd HL.out.shok h
    · rw [shelfL_length] at h; omega
  rw [readS_shelf HL.out.len HL.out.fits, shelfL_length] at hX5
  have HX5 := Lib.hid hX5
  have HO5 : Hid (w5.ownsRow w3.heap.size 43 256 (.slice (some ⟨gs, 0, none⟩) 2 cs) 2 (secs (shelfL l 2))) := own_below HO4.out hb5
  have HT5 : Hid (TabAt w5 b1 g1 12 (2 * 6) l) := HT4.out.later hb5
  have HB5 : Hid (Below N w w5) := HB4.out.trans (hb5.mono hz4)
  have hz5 : N ≤ w5.heap.size := by have := hb5.size; omega
  clear hget hb5 hX5 HO4 HT4 HB4 hl4 hlen4 hmax4
  go_wp2_with fail
  have hch := shchanges_any w5 b1 g1 12 2 5 l HT5.out HL.out.fits (by omega)
  rw [show ((5 : Nat) : Int) = 5 from rfl] at hch
  refine hch.mono ?_
  rintro e w6 ⟨v6, rfl, ho6, hb6⟩
  obtain ⟨gc, cc, rfl, hcc, hcm6, hgc1, hgc2⟩ := own_form ho6 (by omega)
  have HC6 := Lib.hid ho6
  have HX6 : Hid (TabAt w6 b3 g3 c3 (2 * 6) l) := HX5.out.later hb6
  have HO6 : Hid (w6.ownsRow w3.heap.size 43 256 (.slice (some ⟨gs, 0, none⟩) 2 cs) 2 (secs (shelfL l 2))) := own_below HO5.out hb6
  have HB6 : Hid (Below N w w6) := HB5.out.trans (hb6.mono hz5)
  have hz6 : N ≤ w6.heap.size := by have := hb6.size; omega
  clear ho6 hb6 hch HX5 HO5 HT5 HB5
  go_wp2_with fail
  refine (shget_any w6 w6.heap.size 0 0 none [] (LiesV.nil _ _ _) rfl (Nat.le_refl _) (Nat.le_refl _) (by omega)).mono ?_
  rintro e w7 ⟨hget, hb7⟩
  obtain rfl : e = .returned (.tuple #[.pointer none, .int .i64 2]) := by
    rcases hget with ⟨h, _⟩ | ⟨h, _⟩ | ⟨_, h⟩
    · simp at h
    · simp at h
    · exact h
  have HC7 := Lib.hid (own_below HC6.out hb7)
  have HX7 : Hid (TabAt w7 b3 g3 c3 (2 * 6) l) := HX6.out.later hb7
  have HO7 : Hid (w7.ownsRow w3.heap.size 43 256 (.slice (some ⟨gs, 0, none⟩) 2 cs) 2 (secs (shelfL l 2))) := own_below HO6.out hb7
  have HB7 : Hid (Below N w w7) := HB6.out.trans (hb7.mono hz6)
  have hz7 : N ≤ w7.heap.size := by have := hb7.size; omega
  clear hget hb7 HC6 HX6 HO6 HB6
  obtain ⟨s, r, hsr⟩ : ∃ s r, shelfL l 2 = s :: r := ⟨_, _, rfl⟩
  have Hbad := Lib.hid (first_bad (by omega) HL.out.len hsr (HL.out.first s r hsr))
  have hrl : r.length = 1 := by have := shelfL_length l 2; rw [hsr] at this; simpa using this
  have Hst := Lib.hid (HO7.out.stored 0 (.int .u8 9))
  rw [hsr] at Hst
  have hsf : (secs (s :: r)).set 0 (Value.int .u8 9) = secs (s.first 9 :: r) := secs_first s r 9
  rw [hsf] at Hst
  have hcell := HO7.out.cellAt 0 (by omega)
  obtain ⟨u, hu⟩ : ∃ u, w7.cell? ⟨gs, 0, none⟩ = some u := ⟨_, hcell.trans (List.getElem?_eq_getElem (by rw [secs_length, shelfL_length]; omega))⟩
  have hfr := HO7.out.frozenAt 0
  clear hcell hsf
  have HC8 : Hid ((w7.setCell ⟨gs, 0, none⟩ (.int .u8 9)).ownsRow w5.heap.size 45 257 (.slice (some ⟨gc, 0, none⟩) 2 cc) 2 (chgs (chgsOf 5 (shelfL l 2)))) := HC7.out.kept Hst.out.2 (.inr (fun e => own_apart2 HC7.out HO7.out (by decide) rfl e.symm))
  have HX8 : Hid (TabAt (w7.setCell ⟨gs, 0, none⟩ (.int .u8 9)) b3 g3 c3 (2 * 6) l) := HX7.out.keep Hst.out.2 (fun e => own_row_apart HO7.out HX7.out.ptr (by decide) e) (fun e => own_apart2 HO7.out HX7.out.row (by decide) e rfl)
  have HB8 : Hid (Below N w (w7.setCell ⟨gs, 0, none⟩ (.int .u8 9))) := HB7.out.setCell (by show N ≤ gs; exact hgsN) _
  have hz8 : N ≤ (w7.setCell ⟨gs, 0, none⟩ (.int .u8 9)).heap.size := by have := Hst.out.2.size; omega
  have HO8 := Lib.hid Hst.out.1
  clear Hst HC7 HX7 HO7 HB7 hsr
  go_wp2_with fail
  generalize w7.setCell ⟨gs, 0, none⟩ (.int .u8 9) = w8 at *
  obtain ⟨A8, c8, hv8, hlen8, hcap8, hmax8, hl8⟩ := lies_ownS HO8.out
  injection hv8 with e1 e2 e3
  subst e1 e3
  clear e2
  refine (shget_any w8 w8.heap.size 2 cs (some ⟨gs, 0, none⟩) (s.first 9 :: r) hl8 hlen8 (Nat.le_refl _) hcap8 (by omega)).mono ?_
  rintro e w9 ⟨hget, hb9⟩
  obtain rfl : e = .returned (.tuple #[.pointer none, .int .i64 5]) := by
    rcases hget with ⟨_, _, h, _⟩ | ⟨_, _, _, h⟩ | ⟨h, _⟩
    · exact absurd h Hbad.out
    · exact h
    · rw [← hlen8] at h; omega
  have HX9 : Hid (TabAt w9 b3 g3 c3 (2 * 6) l) := HX8.out.later hb9
  have HB9 : Hid (Below N w w9) := HB8.out.trans (hb9.mono hz8)
  have HC9 := Lib.hid (own_below HC8.out hb9)
  have hAt : w9.cell? ⟨gc, 1 * 257, none⟩ = some (.int .i64 6) := by
    have hg : (chgsOf 5 (shelfL l 2))[1]? = some (5 + 1, sixAt l 1) := chgsOf_get rfl
    exact chg_at HC9.out hg
  clear hget hb9 HX8 HB8 HC8 HO8 hl8 hlen8
  go_wp2_with fail
  refine (tlen_any w9 b3 g3 c3 (2 * 6) l HX9.out).mono ?_
  rintro e wx ⟨rfl, hw⟩
  rw [hw, HL.out.cnt]
  clear hw wx
  go_wp2_with fail
  go_ret
  exact ⟨rfl, by rw [hN]; exact HB9.out⟩
end Go.Proofs.Ytiglffkbaddefaa
namespace Go.Proofs.Ytiglffkbaddefaa
open Go.RowKit
set_option linter.unusedVariables false
set_option linter.unusedSimpArgs false

theorem PutP.oks {n : Nat} {hn : 0 < n} {l l' : List Ent} {e : Ent} {code : Int} (h : PutP n hn l e code l') (hok : ∀ x ∈ l, x.count ≠ 0 → x.ok) : ∀ x ∈ l', x.count ≠ 0 → x.ok := by
  intro x hx hc
  rcases h.what with ⟨_, _, rfl⟩ | ⟨h1, _, _, _, h2⟩ | ⟨_, _, _, _, rfl⟩ | ⟨h1, _, _, _, _, h2⟩
  · exact hok x hx hc
  · rcases (h2 x hc).1 hx with ⟨h3, _⟩ | rfl
    · exact hok x h3 hc
    · exact h1
  · exact hok x hx hc
  · rcases (h2 x hc).1 hx with ⟨h3, _⟩ | rfl
    · exact hok x h3 hc
    · exact h1
/-- A table's places, as a law carries them. -/
structure Good (n : Nat) (hn : 0 < n) (l : List Ent) : Prop where
  tb : Tb n hn l
  oks : ∀ x ∈ l, x.count ≠ 0 → x.ok
theorem Good.fits {n : Nat} {hn : 0 < n} {l : List Ent} (h : Good n hn l) : ∀ e ∈ l, e.fits := h.tb.fits h.oks
theorem Good.new (n : Nat) (hn : 0 < n) : Good n hn (List.replicate n zeroEnt) := ⟨Tb.new n hn, fun x hx hc => by rw [List.eq_of_mem_replicate hx] at hc; exact absurd rfl hc⟩
theorem Good.put {n : Nat} {hn : 0 < n} {l l' : List Ent} {e : Ent} {code : Int} (h : Good n hn l) (hp : PutP n hn l e code l') : Good n hn l' := ⟨hp.tb, hp.oks h.oks⟩
theorem Good.drop {n : Nat} {hn : 0 < n} {l l' : List Ent} {a : Adr} {code : Int} (h : Good n hn l) (hp : DropP n hn l a code l') : Good n hn l' := by
  refine ⟨hp.tb, fun x hx hc => ?_⟩
  rcases hp.what with ⟨_, _, _, h2⟩ | ⟨_, _, rfl⟩
  · exact h.oks x ((h2 x hc).1 hx).1 hc
  · exact h.oks x hx hc
/-- An entry that is put and dropped again. -/
theorem put_drop {n : Nat} {hn : 0 < n} {l l2 l3 : List Ent} {e : Ent} {c2 c3 : Int} (h : Tb n hn l) (hno : ∀ f ∈ l, f.count ≠ 0 → f.adr ≠ e.adr) (hp : PutP n hn l e c2 l2) (h0 : c2 = 0) (hd : DropP n hn l2 e.adr c3 l3) : c3 = 0 ∧ l3 = l ∧ l ≠ l2 := by
  rcases hp.what with ⟨_, h1, _⟩ | ⟨_, ⟨f, hf, hfc, hfa⟩, _⟩ | ⟨_, _, _, h1, _⟩ | ⟨hok, _, _, _, h1, h2⟩
  · rw [h0] at h1; cases h1
  · exact absurd hfa (hno f hf hfc)
  · rw [h0] at h1; cases h1
  · have he : e.count ≠ 0 := by have := hok.1; omega
    have hm : e ∈ l2 := (h2 e he).2 (.inr rfl)
    rcases hd.what with ⟨_, h3, h4, h5⟩ | ⟨h3, _⟩
    · refine ⟨h3, Tb.one hd.tb h fun x hx => ?_, fun h6 => ?_⟩
      · rw [h5 x hx, h2 x hx]
        constructor
        · rintro ⟨⟨h7, _⟩ | rfl, h8⟩
          · exact h7
          · exact absurd rfl h8
        · exact fun h7 => ⟨.inl ⟨h7, hno x h7 hx⟩, hno x h7 hx⟩
      · rw [← h6] at h1; omega
    · exact absurd rfl (h3 e hm he)

set_option maxRecDepth 100000 in
set_option maxHeartbeats 16000000 in
theorem forgets12_any (HW : Works12) (w : World) (B m c : Nat) (A : Option Addr) (l : List Ent) (x : Ent) (h : LiesV w B A (ents l)) (hm : m = l.length) (hB : B ≤ w.heap.size) (hc : m ≤ c) :
    Calls Try.prog 5 #[.slice A m c, .agg x.cs.toArray] w fun e w' => e = .returned (.bool true) ∧ Below w.heap.size w w' := by
  have HL := Lib.hid h
  have Hm := Lib.hid hm
  have HW := Lib.hid HW
  have Hsx := Lib.hid (ent_size x)
  have HszA := Lib.hid (adr_size x.adr)
  clear h hm
  obtain ⟨N, hN⟩ : ∃ N, w.heap.size = N := ⟨_, rfl⟩
  rw [hN] at hB
  go_enter Try.func5, Try.ntmps5
  go_wp2_with ((with_reducible refine at_box 32 ?_); refine wpList_box_rowV rfl 32 _ rfl x.cs rfl ?_)
  intro w1 hr1 hb1 hs1
  have HX1 := Lib.hid hr1
  have HB1 := Lib.hid hb1
  have hz1 : N + 1 ≤ w1.heap.size := by omega
  clear hr1 hb1 hs1
  try rw [hN]
  by_cases hbig : m ≤ 40
  · have hd : decide ((m : Int) > 40) = false := decide_eq_false (by omega)
    have HL1 : Hid (LiesV w1 N A (ents l)) := (HL.out.below (HB1.out.mono hB)).le hB
    go_wp2_with fail
    refine (tnew_any w1 30).mono ?_
    intro e w2 hnew
    unfold New11V at hnew
    rw [if_pos (by omega), show (30 : Int).toNat = 30 from rfl] at hnew
    obtain ⟨b, g, rfl, hT2, hb, hg, hB2⟩ := hnew
    have HT2 := Lib.hid hT2
    have HX2 : Hid (RowV w2 N 32 x.cs) := HX1.out.below (by omega) hB2
    have HB2 : Hid (Below N w w2) := HB1.out.trans (hB2.mono (by omega))
    have HL2 : Hid (LiesV w2 N A (ents l)) := HL1.out.below (hB2.mono (by omega))
    have HK2 : Hid (Good 30 (by decide) (List.replicate 30 zeroEnt)) := Good.new 30 _
    have hz2 : Hid (N + 1 ≤ w2.heap.size) := by show _ ≤ _; have := hB2.size; omega
    have hgN : N + 1 ≤ g := by omega
    have hbN : N + 1 ≤ b := by omega
    clear hT2 hB2 HX1 HB1 HL1 hb hg
    go_wp2_with fail
    go_loopw [7] (fun v W => ∃ (k : Nat) (l' : List Ent), k ≤ m ∧ v = .int .i64 k ∧ Hid (TabAt W b g 30 30 l') ∧ Hid (Good 30 (by decide) l') ∧ Hid (RowV W N 32 x.cs) ∧ Hid (Below N w W) ∧ Hid (LiesV W N A (ents l)) ∧ Hid (N + 1 ≤ W.heap.size)) (fun v _ => m - (intOf v).toNat)
    case atStart => exact ⟨0, _, Nat.zero_le _, rfl, HT2, HK2, HX2, HB2, HL2, hz2⟩
    case round =>
      obtain ⟨k, l', hk, rfl, HT, HK, HX, HB, HLr, HZ⟩ := hrel
      clear HT2 HK2 HX2 HB2 HL2 hz2
      by_cases hlt : k < m
      · have hlt' : (k : Int) < (m : Int) := by omega
        have hk0 : (0 : Int) ≤ (k : Int) := by omega
        obtain ⟨e, he⟩ : ∃ e, l[k]? = some e := ⟨_, List.getElem?_eq_getElem (by rw [← Hm.out]; exact hlt)⟩
        obtain ⟨b1, o1, hA, hb1, hra⟩ := lies_ent HLr.out he
        subst hA
        have Hra := Lib.hid hra
        have Hse := Lib.hid (ent_size e)
        have hz := HZ.out
        clear hra he
        go_wp2_with ((with_reducible refine at_load 32 ?_); refine wpList_load_mid rfl 32 _ rfl b1 (o1 + k * 34) rfl e.cs _ Hra.out Try.underlying32 rfl Hse.out ?_)
        refine (tput_any wr b g 30 30 (by decide) l' HT.out HK.out.tb e).mono ?_
        rintro r w5 ⟨code, l2, rfl, hT5, hp, hB5⟩
        have hbx : Below (N + 1) wr w5 := (hB5.less hz).below (fun j hj => by rw [List.mem_singleton.1 hj]; exact hgN)
        have HT5 := Lib.hid hT5
        have HK5 := Lib.hid (HK.out.put hp)
        have HX5 : Hid (RowV w5 N 32 x.cs) := HX.out.below (by omega) hbx
        have HB5 : Hid (Below N w w5) := HB.out.trans (hbx.mono (by omega))
        have HL5 : Hid (LiesV w5 N _ (ents l)) := HLr.out.below (hbx.mono (by omega))
        have hz5 : Hid (N + 1 ≤ w5.heap.size) := by show _ ≤ _; have := hbx.size; omega
        clear hT5 hp hB5 hbx HT HK HX HB HLr HZ
        go_wp2_with fail
        go_roundw
        case rel => exact ⟨k + 1, l2, by omega, by go_num, HT5, HK5, HX5, HB5, HL5, hz5⟩
        case measure => simp [intOf]; omega
      · have q1 : Hid (wr.rangeAt N 0 (cells x.adr.1)) := adr_of (row_range HX.out)
        have hz := HZ.out
        clear HLr
        go_wp2_with ((with_reducible refine at_load 30 ?_); refine wpList_load_mid rfl 30 _ rfl N 0 rfl (cells x.adr.1) _ q1.out Try.underlying30 rfl HszA.out ?_)
        refine (tget_any wr b g 30 30 (by decide) l' HT.out HK.out.tb x.adr).mono ?_
        rintro r w3 ⟨hget, hb3⟩
        have HT3 : Hid (TabAt w3 b g 30 30 l') := HT.out.later hb3
        have HX3 : Hid (RowV w3 N 32 x.cs) := HX.out.below (by omega) hb3
        have HB3 : Hid (Below N w w3) := HB.out.trans (hb3.mono (by omega))
        have hz3 : N + 1 ≤ w3.heap.size := by have := hb3.size; omega
        clear HT HX HB HZ hb3 q1
        obtain ⟨f, ok, rfl, hno⟩ : ∃ f ok, r = entV f ok ∧ (ok = false → ∀ e ∈ l', e.count ≠ 0 → e.adr ≠ x.adr) := by
          rcases hget with ⟨f, _, _, _, h1⟩ | ⟨h1, h2⟩
          · exact ⟨f, true, h1, fun h => by cases h⟩
          · exact ⟨zeroEnt, false, h2, fun _ => h1⟩
        have Hno := Lib.hid hno
        unfold entV
        clear hget hno
        obtain ⟨M, hM⟩ : ∃ M, w3.heap.size = M := ⟨_, rfl⟩
        cases ok with
        | true =>
          go_wp2_with (first
            | ((with_reducible refine at_alloc 32 ?_); refine wpList_alloc_rowV rfl 32 rfl zeroEnt.cs Try.zeroEnt11 ?_; intro w4 hr4 hb4 hs4; rw [hM] at hr4 hb4 ⊢)
            | ((with_reducible refine at_store 32 ?_); refine wpList_store_rowV rfl 32 _ _ rfl M f.cs rfl rfl 32 zeroEnt.cs hr4 (by rw [List.size_toArray]; exact ent_size _) (by rw [List.size_toArray, List.size_toArray, Ent.cs_length, Ent.cs_length]) (all_oneCell_toArray (Ent.one _)) ?_; intro w5 hr5 hg5 hs5; have hb5 : Below M w3 w5 := below_grown hb4 hg5 (Nat.le_refl _) (by have := hb4.size; omega); have HT5 : Hid (TabAt w5 b g 30 30 l') := (HT3.out.later (by rw [hM]; exact hb5)); have HX5 : Hid (RowV w5 N 32 x.cs) := HX3.out.below (by omega) hb5; have HB5 : Hid (Below N w w5) := HB3.out.trans (hb5.mono (by omega)); have hz5 : N + 1 ≤ w5.heap.size := (by have := hb5.size; omega); clear HT3 HX3 HB3 hb4 hr4 hs4 hb5 hr5 hg5 hs5))
          refine (HW.out w5).mono ?_
          rintro e w6 ⟨rfl, hb6⟩
          go_wp2_with fail
          go_ret
          exact ⟨rfl, by rw [hN]; exact HB5.out.trans (hb6.mono (by omega))⟩
        | false =>
          have HN := Lib.hid (Hno.out rfl)
          clear Hno
          go_wp2_with (first
            | ((with_reducible refine at_alloc 32 ?_); refine wpList_alloc_rowV rfl 32 rfl zeroEnt.cs Try.zeroEnt11 ?_; intro w4 hr4 hb4 hs4; rw [hM] at hr4 hb4 ⊢)
            | ((with_reducible refine at_store 32 ?_); refine wpList_store_rowV rfl 32 _ _ rfl M f.cs rfl rfl 32 zeroEnt.cs hr4 (by rw [List.size_toArray]; exact ent_size _) (by rw [List.size_toArray, List.size_toArray, Ent.cs_length, Ent.cs_length]) (all_oneCell_toArray (Ent.one _)) ?_; intro w5 hr5 hg5 hs5; have hb5 : Below M w3 w5 := below_grown hb4 hg5 (Nat.le_refl _) (by have := hb4.size; omega); have HT5 : Hid (TabAt w5 b g 30 30 l') := (HT3.out.later (by rw [hM]; exact hb5)); have HX5 : Hid (RowV w5 N 32 x.cs) := HX3.out.below (by omega) hb5; have HB5 : Hid (Below N w w5) := HB3.out.trans (hb5.mono (by omega)); have hz5 : N + 1 ≤ w5.heap.size := (by have := hb5.size; omega); clear HT3 HX3 HB3 hb4 hr4 hs4 hb5 hr5 hg5 hs5))
          have HT5 : Hid (TabAt w5 b g 30 (5 * 6) l') := HT5
          refine (shput_yes w5 b g 30 5 l' HT5.out HK.out.fits).mono ?_
          rintro e w6 ⟨v6, rfl, ho6, hb6⟩
          obtain ⟨A6, c6, rfl, -, -⟩ := own_slice ho6
          have HO6 := Lib.hid ho6
          have HT6 : Hid (TabAt w6 b g 30 30 l') := HT5.out.later hb6
          have qX : Hid (w6.rangeAt N 0 x.cs) := row_range (HX5.out.below (by omega) hb6)
          have HX6 : Hid (RowV w6 N 32 x.cs) := HX5.out.below (by omega) hb6
          have HB6 : Hid (Below N w w6) := HB5.out.trans (hb6.mono (by omega))
          have hz6 : N + 1 ≤ w6.heap.size := by have := hb6.size; omega
          have hg6 : g < w5.heap.size := HT5.out.glt
          have hz56 : w5.heap.size ≤ w6.heap.size := hb6.size
          clear ho6 hb6 HT5 HX5 HB5
          go_wp2_with ((with_reducible refine at_load 32 ?_); refine wpList_load_mid rfl 32 _ rfl N 0 rfl x.cs _ qX.out Try.underlying32 rfl Hsx.out ?_)
          refine (tput_any w6 b g 30 30 (by decide) l' HT6.out HK.out.tb x).mono ?_
          rintro r w7 ⟨code, l2, rfl, hT7, hp, hB7⟩
          have hbx : Below (N + 1) w6 w7 := (hB7.less hz6).below (fun j hj => by rw [List.mem_singleton.1 hj]; exact hgN)
          have HO7 : Hid (w7.ownsRow w5.heap.size 43 256 (.slice A6 5 c6) 5 (secs (shelfL l' 5))) := own_but HO6.out hB7 (fun j hj => ⟨own_lt HO6.out hj, by have := own_ge HO6.out j hj; simp only [List.mem_singleton]; omega⟩)
          have HT7 : Hid (TabAt w7 b g 30 (5 * 6) l2) := hT7
          have HP7 := Lib.hid hp
          have HX7 : Hid (RowV w7 N 32 x.cs) := HX6.out.below (by omega) hbx
          have HB7 : Hid (Below N w w7) := HB6.out.trans (hbx.mono (by omega))
          have hz7 : N + 1 ≤ w7.heap.size := by have := hbx.size; omega
          have hz57 : w5.heap.size ≤ w7.heap.size := by have := hB7.size; omega
          clear hT7 hp hB7 hbx HO6 HT6 HX6 HB6 qX
          by_cases h0 : code = 0
          · have hd0 : (code != 0) = false := by rw [bne_eq_false_iff_eq]; exact h0
            go_wp2_with fail
            refine (shput_yes w7 b g 30 5 l2 HT7.out (HK.out.put HP7.out).fits).mono ?_
            rintro e w8 ⟨v8, rfl, ho8, hb8⟩
            obtain ⟨A8, c8, rfl, -, -⟩ := own_slice ho8
            have HQ8 := Lib.hid ho8
            have HO8 := Lib.hid (own_below HO7.out hb8)
            have HT8 : Hid (TabAt w8 b g 30 30 l2) := HT7.out.later hb8
            have HX8 : Hid (RowV w8 N 32 x.cs) := HX7.out.below (by omega) hb8
            have q8 : Hid (w8.rangeAt N 0 (cells x.adr.1)) := adr_of (row_range HX8.out)
            have HB8 : Hid (Below N w w8) := HB7.out.trans (hb8.mono (by omega))
            have hz8 : N + 1 ≤ w8.heap.size := by have := hb8.size; omega
            have hz78 : w7.heap.size ≤ w8.heap.size := hb8.size
            clear ho8 hb8 HO7 HT7 HX7 HB7
            go_wp2_with ((with_reducible refine at_load 30 ?_); refine wpList_load_mid rfl 30 _ rfl N 0 rfl (cells x.adr.1) _ q8.out Try.underlying30 rfl HszA.out ?_)
            refine (tdrop_any w8 b g 30 30 (by decide) l2 HT8.out HP7.out.tb x.adr).mono ?_
            rintro r w9 ⟨c9, l3, rfl, hT9, hdp, hB9⟩
            obtain ⟨rfl, hl3, hne⟩ := put_drop HK.out.tb HN.out HP7.out h0 hdp
            have hbx : Below (N + 1) w8 w9 := (hB9.less hz8).below (fun j hj => by rw [List.mem_singleton.1 hj]; exact hgN)
            have HO9 : Hid (w9.ownsRow w5.heap.size 43 256 (.slice A6 5 c6) 5 (secs (shelfL l' 5))) := own_but HO8.out hB9 (fun j hj => ⟨own_lt HO8.out hj, by have := own_ge HO8.out j hj; simp only [List.mem_singleton]; omega⟩)
            have HQ9 : Hid (w9.ownsRow w7.heap.size 43 256 (.slice A8 5 c8) 5 (secs (shelfL l2 5))) := own_but HQ8.out hB9 (fun j hj => ⟨own_lt HQ8.out hj, by have := own_ge HQ8.out j hj; simp only [List.mem_singleton]; omega⟩)
            have HT9 : Hid (TabAt w9 b g 30 (5 * 6) l') := by rw [← hl3]; exact hT9
            have HB9 : Hid (Below N w w9) := HB8.out.trans (hbx.mono (by omega))
            have hz9 : N + 1 ≤ w9.heap.size := by have := hbx.size; omega
            have Hne : Hid (shelfL l' 5 ≠ shelfL l2 5) := fun he => hne (shelfL_inj HK.out.tb.len HP7.out.tb.len HK.out.fits (HK.out.put HP7.out).fits he)
            clear hT9 hdp hl3 hne hB9 hbx HO8 HQ8 HT8 HX8 HB8 q8
            go_wp2_with fail
            refine (shput_yes w9 b g 30 5 l' HT9.out HK.out.fits).mono ?_
            rintro e w10 ⟨v10, rfl, ho10, hb10⟩
            obtain ⟨A10, c10, rfl, -, -⟩ := own_slice ho10
            have HB10 : Hid (Below N w w10) := HB9.out.trans (hb10.mono (by omega))
            have hz10 : N + 1 ≤ w10.heap.size := by have := hb10.size; omega
            obtain ⟨_, _, h1, -, hc10a, -, l10⟩ := lies_ownS ho10
            injection h1 with e1 e2 e3
            subst e1 e3
            obtain ⟨_, _, h1, -, hc10b, -, l6⟩ := lies_ownS (own_below HO9.out hb10)
            injection h1 with e1 e2 e3
            subst e1 e3
            obtain ⟨_, _, h1, -, hc10c, -, l8⟩ := lies_ownS (own_below HQ9.out hb10)
            injection h1 with e1 e2 e3
            subst e1 e3
            have HLa := Lib.hid l10
            have HLb := Lib.hid l6
            have HLc := Lib.hid l8
            clear ho10 hb10 HO9 HQ9 HT9 HB9 l10 l6 l8
            go_wp2_with fail
            refine (rsame12_any w10 w10.heap.size 5 c6 5 c10 A6 A10 (shelfL l' 5) (shelfL l' 5) HLb.out HLa.out (shelfL_length l' 5).symm (shelfL_length l' 5).symm (Nat.le_refl _) (by omega) (by omega) hc10b hc10a).mono ?_
            rintro e w11 ⟨rfl, hb11⟩
            rw [decide_eq_true (rfl : shelfL l' 5 = shelfL l' 5)]
            have HB11 : Hid (Below N w w11) := HB10.out.trans (hb11.mono (by omega))
            have hz11 : N + 1 ≤ w11.heap.size := by have := hb11.size; omega
            have HLb1 : Hid (LiesV w11 w11.heap.size A6 (secs (shelfL l' 5))) := (HLb.out.below hb11).le hb11.size
            have HLc1 : Hid (LiesV w11 w11.heap.size A8 (secs (shelfL l2 5))) := (HLc.out.below hb11).le hb11.size
            clear hb11 HB10 HLa HLb HLc
            go_wp2_with fail
            refine (rsame12_any w11 w11.heap.size 5 c6 5 c8 A6 A8 (shelfL l' 5) (shelfL l2 5) HLb1.out HLc1.out (shelfL_length l' 5).symm (shelfL_length l2 5).symm (Nat.le_refl _) (by omega) (by omega) hc10b hc10c).mono ?_
            rintro e w12 ⟨rfl, hb12⟩
            rw [decide_eq_false Hne.out]
            have HB12 : Hid (Below N w w12) := HB11.out.trans (hb12.mono (by omega))
            have hz12 : N + 1 ≤ w12.heap.size := by have := hb12.size; omega
            clear hb12 HB11 HLb1 HLc1
            go_wp2_with fail
            refine (HW.out w12).mono ?_
            rintro e w13 ⟨rfl, hb13⟩
            go_wp2_with fail
            go_ret
            exact ⟨rfl, by rw [hN]; exact HB12.out.trans (hb13.mono (by omega))⟩
          · have hd0 : (code != 0) = true := by rw [bne_iff_ne]; exact h0
            clear HO7 HT7 HX7
            go_wp2_with fail
            refine (HW.out w7).mono ?_
            rintro e w8 ⟨rfl, hb8⟩
            go_wp2_with fail
            go_ret
            exact ⟨rfl, by rw [hN]; exact HB7.out.trans (hb8.mono (by omega))⟩
  · have hd : decide ((m : Int) > 40) = true := decide_eq_true (by omega)
    go_wp2_with fail
    refine (HW.out w1).mono ?_
    rintro e w6 ⟨rfl, hb6⟩
    go_wp2_with fail
    go_ret
    exact ⟨rfl, by rw [hN]; exact HB1.out.trans (hb6.mono (by omega))⟩
end Go.Proofs.Ytiglffkbaddefaa
namespace Go.Proofs.Ytiglffkbaddefaa
open Go.RowKit Go.Shelf
set_option linter.unusedVariables false
set_option linter.unusedSimpArgs false

/-- The bytes from place o + j to o + 6 as a number. -/
def hiN (x : List UInt8) (o j : Nat) : Nat := leN ((x.drop (o + j)).take (6 - j))
theorem hiN_six (x : List UInt8) (o : Nat) : hiN x o 6 = 0 := by simp [hiN, leN]
theorem hiN_step {x : List UInt8} {o j : Nat} {b : UInt8} (hj : j < 6) (hb : x[o + j]? = some b) : hiN x o j = hiN x o (j + 1) * 256 + b.toNat := by
  have hlt := (List.getElem?_eq_some_iff.1 hb).1
  unfold hiN
  rw [List.drop_eq_getElem_cons hlt, show 6 - j = (6 - (j + 1)) + 1 by omega, List.take_succ_cons, leN]
  have : x[o + j] = b := (List.getElem?_eq_some_iff.1 hb).2
  rw [this, Nat.add_assoc]
  omega
theorem hiN_lt (x : List UInt8) (o j : Nat) : hiN x o j < 281474976710656 := by
  have h1 := leN_take_lt (x.drop (o + j)) (6 - j)
  have h2 : 256 ^ (6 - j) ≤ 256 ^ 6 := Nat.pow_le_pow_right (by omega) (by omega)
  unfold hiN
  omega
/-- An address of which the first k bytes are told. -/
def adrK (x : List UInt8) (o k : Nat) : Adr := ⟨(List.range 32).map fun i => if i < k then x.getD (o + 8 + i) 0 else 0, by simp⟩
theorem adrK_zero (x : List UInt8) (o : Nat) : adrK x o 0 = zeroAdr := by
  apply Subtype.ext
  show List.map _ _ = zeroAdr.1
  simp only [Nat.not_lt_zero, if_false]
  rfl
theorem adrK_all (x : List UInt8) (o : Nat) : adrK x o 32 = (entAt x o).adr := by
  apply Subtype.ext
  show List.map _ _ = List.map _ _
  apply List.map_congr_left
  intro i hi
  rw [List.mem_range] at hi
  rw [if_pos hi]
theorem adrK_set {x : List UInt8} {o k : Nat} {b : UInt8} (hk : k < 32) (hb : x[o + 8 + k]? = some b) : (adrK x o k).1.set k b = (adrK x o (k + 1)).1 := by
  apply List.ext_getElem?
  intro i
  have e1 : ∀ j, (adrK x o j).1 = (List.range 32).map (fun i => if i < j then x.getD (o + 8 + i) 0 else 0) := fun _ => rfl
  rw [e1, e1]
  by_cases hi : i < 32
  · rw [List.getElem?_set]
    by_cases hik : k = i
    · subst hik
      simp [hk, List.getD_eq_getElem?_getD, hb]
    · rw [if_neg hik, List.getElem?_map, List.getElem?_map, List.getElem?_range hi]
      simp only [Option.map_some]
      congr 1
      by_cases h1 : i < k
      · rw [if_pos h1, if_pos (by omega)]
      · rw [if_neg h1, if_neg (by omega)]
  · rw [List.getElem?_eq_none (by simp; omega), List.getElem?_eq_none (by simp; omega)]
theorem cs_setCount (a : Adr) (s c c' : Int) : (Ent.mk a s c).cs.set 33 (.int .i64 c') = (Ent.mk a s c').cs := by
  have hl : (cells a.1).length = 32 := by rw [cells_length, a.2]
  show (cells a.1 ++ [Value.int .i64 s, Value.int .i64 c]).set 33 _ = cells a.1 ++ [Value.int .i64 s, Value.int .i64 c']
  rw [List.set_append_right _ _ (by omega), hl]
  rfl
theorem cs_setSlot (a : Adr) (s c s' : Int) : (Ent.mk a s c).cs.set 32 (.int .i64 s') = (Ent.mk a s' c).cs := by
  have hl : (cells a.1).length = 32 := by rw [cells_length, a.2]
  show (cells a.1 ++ [Value.int .i64 s, Value.int .i64 c]).set 32 _ = cells a.1 ++ [Value.int .i64 s', Value.int .i64 c]
  rw [List.set_append_right _ _ (by omega), hl]
  rfl
theorem cells_set (xs : List UInt8) (k : Nat) (b : UInt8) : (cells xs).set k (.int .u8 (b.toNat : Int)) = cells (xs.set k b) := by
  unfold cells
  rw [List.map_set]
theorem cs_setAdr {x : List UInt8} {o k : Nat} {b : UInt8} (hk : k < 32) (hb : x[o + 8 + k]? = some b) (s c : Int) : (Ent.mk (adrK x o k) s c).cs.set k (.int .u8 (b.toNat : Int)) = (Ent.mk (adrK x o (k + 1)) s c).cs := by
  have hl : (cells (adrK x o k).1).length = 32 := by rw [cells_length, (adrK x o k).2]
  show (cells (adrK x o k).1 ++ [Value.int .i64 s, Value.int .i64 c]).set k _ = cells (adrK x o (k + 1)).1 ++ [Value.int .i64 s, Value.int .i64 c]
  rw [List.set_append_left _ _ (by omega), cells_set, adrK_set hk hb]

set_option maxRecDepth 100000 in
set_option maxHeartbeats 8000000 in
theorem rone_any (w : World) (x : Sec) (o : Nat) (ho : o + 42 ≤ 256) :
    Calls Try.prog 39 #[.agg x.cs.toArray, .int .i64 (o : Int)] w fun e w' => e = .returned (.agg (entAt x.1 o).cs.toArray) ∧ Below w.heap.size w w' := by
  have Hx := Lib.hid x.2
  go_enter Try.func39, Try.ntmps39
  go_wp2_with ((with_reducible refine at_box 43 ?_); refine wpList_box_rowV rfl 43 _ rfl x.cs rfl ?_)
  intro w1 hr1 hb1 hs1
  obtain ⟨N, hN⟩ : ∃ N, w.heap.size = N := ⟨_, rfl⟩
  rw [hN] at hr1 hb1 hs1 ⊢
  go_wp2_with ((with_reducible refine at_alloc 32 ?_); refine wpList_alloc_rowV rfl 32 rfl zeroEnt.cs Try.zeroEnt11 ?_)
  intro w2 hr2 hb2 hs2
  have hr12 := hr1.below (by omega) hb2
  have hB2 : Below N w w2 := hb1.trans (hb2.mono (by omega))
  have hs2' : w2.heap.size = N + 2 := by omega

  clear hr1 hb1 hb2 hs1 hs2
  go_wp2_with (first
    | ((with_reducible refine at_build 32 ?_); refine wpList_build_to rfl 32 _ rfl zeroEnt.cs Try.builtE0 ?_)
    | ((with_reducible refine at_alloc 32 ?_); refine wpList_alloc_rowV rfl 32 rfl zeroEnt.cs Try.zeroEnt11 ?_; intro w3 hr3 hb3 hs3; rw [hs2'] at hr3 hb3 ⊢)
    | ((with_reducible refine at_store 32 ?_); refine wpList_store_rowV rfl 32 _ _ rfl (N + 2) zeroEnt.cs rfl rfl 32 zeroEnt.cs hr3 (by rw [List.size_toArray]; exact ent_size _) rfl (all_oneCell_toArray (Ent.one _)) ?_; intro w4 hr4 hg4 hs4))
  have hb4 : Below (N + 2) w2 w4 := below_grown hb3 hg4 (Nat.le_refl _) (by have := hb3.size; omega)
  have HX4 := Lib.hid (hr12.below (by omega) hb4)
  have HR4 := Lib.hid (hr2.below (by omega) hb4)
  have HB4 : Hid (Below N w w4) := hB2.trans (hb4.mono (by omega))
  have HE4 : Hid (RowV w4 (N + 2) 32 (Ent.mk zeroAdr 0 ((hiN x.1 o 6 : Nat) : Int)).cs) := by show RowV _ _ _ _; rw [hiN_six]; exact hr4
  clear hr2 hr12 hB2 hs2' hr3 hb3 hs3 hr4 hg4 hs4 hb4
  go_wp2_with fail
  go_loopw [6] (fun v W => ∃ j : Nat, j ≤ 6 ∧ v = .int .i64 ((j : Int) - 1) ∧ Hid (RowV W N 43 x.cs) ∧ Hid (RowV W (N + 1) 32 zeroEnt.cs) ∧ Hid (RowV W (N + 2) 32 (Ent.mk zeroAdr 0 ((hiN x.1 o j : Nat) : Int)).cs) ∧ Hid (Below N w W)) (fun v _ => ((intOf v) + 1).toNat)
  case atStart => exact ⟨6, Nat.le_refl _, rfl, HX4, HR4, HE4, HB4⟩
  case round =>
    obtain ⟨j, hj, rfl, HX, HR, HE, HB⟩ := hrel
    clear HX4 HR4 HE4 HB4
    by_cases h0 : 0 < j
    · obtain ⟨k, rfl⟩ : ∃ k, j = k + 1 := ⟨j - 1, by omega⟩
      have hk1 : (((k + 1 : Nat) : Int)) - 1 = (k : Int) := by omega
      rw [hk1]
      have hk0 : (0 : Int) ≤ (k : Int) := by omega
      have hk6 : k < 6 := by omega
      obtain ⟨b, hb⟩ : ∃ b, x.1[o + k]? = some b := ⟨_, List.getElem?_eq_getElem (by rw [Hx.out]; omega)⟩
      have hst := hiN_step hk6 hb
      have hl1 := hiN_lt x.1 o k
      have cX : wr.drew.cell? ⟨N, o + k, none⟩ = some (.int .u8 (b.toNat : Int)) := HX.out.cell (cells_get hb)
      have cE : wr.drew.cell? ⟨N + 2, 33, none⟩ = some (.int .i64 ((hiN x.1 o (k + 1) : Nat) : Int)) := HE.out.ent_count
      have fE : wr.drew.frozen? ⟨N + 2, 33, none⟩ = false := HE.out.frozen 33
      have hb8 : b.toNat < 256 := b.toNat_lt
      have HEs : Hid (RowV (wr.setCell ⟨N + 2, 33, none⟩ (.int .i64 ((hiN x.1 o k : Nat) : Int))).drew (N + 2) 32 (Ent.mk zeroAdr 0 ((hiN x.1 o k : Nat) : Int)).cs) := by
        have := HE.out.setCell 33 (.int .i64 ((hiN x.1 o k : Nat) : Int))
        rw [cs_setCount] at this
        exact this.drew
      have HXs : Hid (RowV (wr.setCell ⟨N + 2, 33, none⟩ (.int .i64 ((hiN x.1 o k : Nat) : Int))).drew N 43 x.cs) := (HX.out.setCell_other (by show N ≠ N + 2; omega) _).drew
      have HRs : Hid (RowV (wr.setCell ⟨N + 2, 33, none⟩ (.int .i64 ((hiN x.1 o k : Nat) : Int))).drew (N + 1) 32 zeroEnt.cs) := (HR.out.setCell_other (by show N + 1 ≠ N + 2; omega) _).drew
      have HBs : Hid (Below N w (wr.setCell ⟨N + 2, 33, none⟩ (.int .i64 ((hiN x.1 o k : Nat) : Int))).drew) := (HB.out.setCell (by show N ≤ N + 2; omega) _).drew
      have hval : ((hiN x.1 o (k + 1) : Nat) : Int) * 256 + (b.toNat : Int) = ((hiN x.1 o k : Nat) : Int) := by rw [hst]; omega
      clear hst hb
      generalize hy : hiN x.1 o k = y at *
      have Hy := Lib.hid hy
      clear hy
      generalize hiN x.1 o (k + 1) = z at *
      generalize b.toNat = bn at *
      clear HX HR HE HB
      have hok : (o : Int) + (k : Int) < 256 := by omega
      go_wp2_with fail
      go_region
      clear cX cE fE
      generalize (wr.setCell ⟨N + 2, 33, none⟩ (.int .i64 (y : Int))).drew = wd at *
      go_wp2_with fail
      go_roundw
      case rel => exact ⟨k, by omega, by go_num, HXs, HRs, by rw [Hy.out]; exact HEs, HBs⟩
      case measure => simp [intOf]
    · obtain rfl : j = 0 := by omega
      have He0 : Hid (((hiN x.1 o 0 : Nat) : Int) = (entAt x.1 o).count) := rfl
      rw [He0.out] at HE
      obtain ⟨b6, h6⟩ : ∃ b, x.1[o + 6]? = some b := ⟨_, List.getElem?_eq_getElem (by rw [Hx.out]; omega)⟩
      obtain ⟨b7, h7⟩ : ∃ b, x.1[o + 7]? = some b := ⟨_, List.getElem?_eq_getElem (by rw [Hx.out]; omega)⟩
      have Hs0 : Hid ((b6.toNat : Int) + 256 * (b7.toNat : Int) = (entAt x.1 o).slot) := by
        have l6 := (List.getElem?_eq_some_iff.1 h6).1
        have l7 := (List.getElem?_eq_some_iff.1 h7).1
        have e : (x.1.drop (o + 6)).take 2 = [b6, b7] := by
          rw [List.drop_eq_getElem_cons l6, List.drop_eq_getElem_cons l7, List.take_succ_cons, List.take_succ_cons, List.take_zero, (List.getElem?_eq_some_iff.1 h6).2, (List.getElem?_eq_some_iff.1 h7).2]
        show _ = ((leN ((x.1.drop (o + 6)).take 2) : Nat) : Int)
        rw [e]
        simp [leN]
      have c6 : wr.drew.cell? ⟨N, o + 6, none⟩ = some (.int .u8 (b6.toNat : Int)) := HX.out.cell (cells_get h6)
      have c7 : wr.drew.cell? ⟨N, o + 7, none⟩ = some (.int .u8 (b7.toNat : Int)) := HX.out.cell (cells_get h7)
      have f32 : wr.drew.frozen? ⟨N + 2, 32, none⟩ = false := HE.out.frozen 32
      have c32 : wr.drew.cell? ⟨N + 2, 32, none⟩ = some (.int .i64 0) := HE.out.ent_slot
      have g6 : b6.toNat < 256 := b6.toNat_lt
      have g7 : b7.toNat < 256 := b7.toNat_lt
      have ho6 : (o : Int) + 6 < 256 := by omega
      have ho7 : (o : Int) + 7 < 256 := by omega
      have HEs : Hid (RowV (wr.setCell ⟨N + 2, 32, none⟩ (.int .i64 ((b6.toNat : Int) + 256 * (b7.toNat : Int)))).drew (N + 2) 32 (Ent.mk (adrK x.1 o 0) (entAt x.1 o).slot (entAt x.1 o).count).cs) := by
        have := HE.out.setCell 32 (.int .i64 ((b6.toNat : Int) + 256 * (b7.toNat : Int)))
        rw [cs_setSlot] at this
        rw [← Hs0.out, adrK_zero]
        exact this.drew
      have HXs : Hid (RowV (wr.setCell ⟨N + 2, 32, none⟩ (.int .i64 ((b6.toNat : Int) + 256 * (b7.toNat : Int)))).drew N 43 x.cs) := (HX.out.setCell_other (by show N ≠ N + 2; omega) _).drew
      have HRs : Hid (RowV (wr.setCell ⟨N + 2, 32, none⟩ (.int .i64 ((b6.toNat : Int) + 256 * (b7.toNat : Int)))).drew (N + 1) 32 zeroEnt.cs) := (HR.out.setCell_other (by show N + 1 ≠ N + 2; omega) _).drew
      have HBs : Hid (Below N w (wr.setCell ⟨N + 2, 32, none⟩ (.int .i64 ((b6.toNat : Int) + 256 * (b7.toNat : Int)))).drew) := (HB.out.setCell (by show N ≤ N + 2; omega) _).drew
      clear h6 h7 Hs0 He0 HX HR HE HB
      generalize b6.toNat = n6 at *
      generalize b7.toNat = n7 at *
      go_wp2_with fail
      go_region
      clear c6 c7 c32 f32
      generalize (wr.setCell ⟨N + 2, 32, none⟩ (.int .i64 ((n6 : Int) + 256 * (n7 : Int)))).drew = wd at *
      obtain ⟨es, hes⟩ : ∃ es, (entAt x.1 o).slot = es := ⟨_, rfl⟩
      obtain ⟨ec, hec⟩ : ∃ ec, (entAt x.1 o).count = ec := ⟨_, rfl⟩
      have Hent : Hid (Ent.mk (adrK x.1 o 32) es ec = entAt x.1 o) := by show _ = _; rw [adrK_all, ← hes, ← hec]
      rw [hes, hec] at HEs
      clear hes hec
      go_wp2_with fail
      go_loopw [7] (fun v W => ∃ k : Nat, k ≤ 32 ∧ v = .int .i64 k ∧ Hid (RowV W N 43 x.cs) ∧ Hid (RowV W (N + 1) 32 zeroEnt.cs) ∧ Hid (RowV W (N + 2) 32 (Ent.mk (adrK x.1 o k) es ec).cs) ∧ Hid (Below N w W)) (fun v _ => 32 - (intOf v).toNat)
      case atStart => exact ⟨0, Nat.zero_le _, rfl, HXs, HRs, HEs, HBs⟩
      case round =>
        obtain ⟨k, hk, rfl, HX, HR, HE, HB⟩ := hrel
        clear HXs HRs HEs HBs
        by_cases hlt : k < 32
        · have hlt' : (k : Int) < 32 := by omega
          have hk0 : (0 : Int) ≤ (k : Int) := by omega
          have hok : (o : Int) + 8 + (k : Int) < 256 := by omega
          obtain ⟨b, hb⟩ : ∃ b, x.1[o + 8 + k]? = some b := ⟨_, List.getElem?_eq_getElem (by rw [Hx.out]; omega)⟩
          have cX : wr.cell? ⟨N, o + 8 + k, none⟩ = some (.int .u8 (b.toNat : Int)) := HX.out.cell (cells_get hb)
          obtain ⟨u, cE⟩ : ∃ u, wr.cell? ⟨N + 2, k, none⟩ = some u := ⟨_, HE.out.cell (i := k) (List.getElem?_eq_getElem (by rw [Ent.cs_length]; omega))⟩
          have fE : wr.frozen? ⟨N + 2, k, none⟩ = false := HE.out.frozen k
          have HEs : Hid (RowV (wr.setCell ⟨N + 2, k, none⟩ (.int .u8 (b.toNat : Int))) (N + 2) 32 (Ent.mk (adrK x.1 o (k + 1)) es ec).cs) := by
            have := HE.out.setCell k (.int .u8 (b.toNat : Int))
            rw [cs_setAdr hlt hb] at this
            exact this
          have HXs : Hid (RowV (wr.setCell ⟨N + 2, k, none⟩ (.int .u8 (b.toNat : Int))) N 43 x.cs) := HX.out.setCell_other (by show N ≠ N + 2; omega) _
          have HRs : Hid (RowV (wr.setCell ⟨N + 2, k, none⟩ (.int .u8 (b.toNat : Int))) (N + 1) 32 zeroEnt.cs) := HR.out.setCell_other (by show N + 1 ≠ N + 2; omega) _
          have HBs : Hid (Below N w (wr.setCell ⟨N + 2, k, none⟩ (.int .u8 (b.toNat : Int)))) := HB.out.setCell (by show N ≤ N + 2; omega) _
          clear HX HR HE HB hb
          generalize b.toNat = bn at *
          go_wp2_with fail
          go_roundw
          case rel => exact ⟨k + 1, by omega, by go_num, HXs, HRs, HEs, HBs⟩
          case measure => simp [intOf]; omega
        · obtain rfl : k = 32 := by omega
          have he := HE.out
          rw [Hent.out] at he
          have qE := Lib.hid (row_range he)
          have Hse := Lib.hid (ent_size (entAt x.1 o))
          have hz := HB.out.size
          have hzl := HR.out.lt
          go_wp2_with (first
            | ((with_reducible refine at_load 32 ?_); refine wpList_load_mid rfl 32 _ rfl (N + 2) 0 rfl (entAt x.1 o).cs _ qE.out Try.underlying32 rfl Hse.out ?_)
            | ((with_reducible refine at_store 32 ?_); refine wpList_store_rowV rfl 32 _ _ rfl (N + 1) (entAt x.1 o).cs rfl rfl 32 zeroEnt.cs HR.out (by rw [List.size_toArray]; exact ent_size _) (by rw [List.size_toArray, List.size_toArray, Ent.cs_length, Ent.cs_length]) (all_oneCell_toArray (Ent.one _)) ?_; intro w6 hr6 hg6 hs6))
          exact bodyPost_ret (results_cell_row (fn := Try.f39) rfl _ _ (N + 1) 32 _ (0, 0) _ rfl hr6 Try.underlying32 rfl (by rw [List.size_toArray]; exact ent_size _)) rfl ⟨rfl, by rw [hN]; exact below_grown HB.out hg6 (by omega) (by omega)⟩
end Go.Proofs.Ytiglffkbaddefaa
