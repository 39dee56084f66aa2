/-
  The walk of the law WordBack.
-/
import Derived.Test.YtpgddlajlehilaaWorks
import Derived.Test.YtpgddlajlehilaaFld
import Derived.Test.YtpgddlajlehilaaStops
import Derived.Test.YtpgddlajlehilaaRPut
import Derived.Test.YtpgddlajlehilaaRGet
import Derived.Deep.RegionHeld3
namespace Go.Proofs.Ytpgddlajlehilaa
open Go.RowKit
set_option linter.unusedVariables false

theorem ok_snoc {l : List Fld} {j : Nat} {f : Fld} (h : ∀ g ∈ l.take j, g.ok) (hf : l[j]? = some f) (ho : f.ok) : ∀ g ∈ l.take (j + 1), g.ok := by
  obtain ⟨hj, rfl⟩ := List.getElem?_eq_some_iff.1 hf
  rw [List.take_succ_eq_append_getElem hj]
  intro g hg
  rcases List.mem_append.1 hg with hg | hg
  · exact h g hg
  · rw [List.mem_singleton.1 hg]; exact ho
theorem k_toNat (f : Fld) : (1 + (f.sz.toNat : Int) % 8).toNat = f.k := by unfold Fld.k; omega
theorem pad_fld {f : Fld} (h : f.s.size + 1 ≤ f.k) : padBytes f.s.data.toList (1 + (f.sz.toNat : Int) % 8) = padB f.s.data.toList f.k := by
  have h2 := f.k_pos
  have h3 : f.s.data.toList.length + 1 ≤ f.k := by rw [← Lib.size_eq]; exact h
  have h4 : (1 + (f.sz.toNat : Int) % 8) = f.k := by unfold Fld.k; omega
  unfold padBytes
  rw [h4, if_neg (by omega), Int.toNat_natCast]
theorem cut_fld {f : Fld} (ho : f.ok) (rest : List UInt8) :
    cutBad (f.enc ++ rest) false (1 + (f.sz.toNat : Int) % 8) = false ∧ cutGot (f.enc ++ rest) false (1 + (f.sz.toNat : Int) % 8) = f.enc ∧ cutRest (f.enc ++ rest) false (1 + (f.sz.toNat : Int) % 8) = rest := by
  have h2 := f.k_pos
  have hl := Fld.enc_length ho
  have h4 : (1 + (f.sz.toNat : Int) % 8) = f.k := by unfold Fld.k; omega
  have hb : cutBad (f.enc ++ rest) false (1 + (f.sz.toNat : Int) % 8) = false := by
    unfold cutBad
    rw [h4, Bool.false_or, decide_eq_false_iff_not, List.length_append, hl]
    omega
  refine ⟨hb, ?_, ?_⟩
  · unfold cutGot
    rw [hb, h4, Int.toNat_natCast, ← hl]
    simp
  · unfold cutRest
    rw [hb, h4, Int.toNat_natCast, ← hl]
    simp
theorem text_fld (w : World) (g : Nat) (f : Fld) (rest : List UInt8) (ho : f.ok) (ht : f.t = true) (h : Cur w g (f.enc ++ rest) false) (hx : (f.enc ++ rest).length ≤ 140737488355328) :
    Calls Try.prog 22 #[.pointer (some ⟨g, 0, none⟩), .int .i64 (1 + (f.sz.toNat : Int) % 8)] w (RetG w g (.string f.s) rest false) := by
  have := text_any w g _ _ (1 + (f.sz.toNat : Int) % 8) h hx
  obtain ⟨e1, e2, e3⟩ := cut_fld ho rest
  have hu : unpadO f.enc = some f.s.data.toList := by
    unfold Fld.enc
    rw [ht, if_pos rfl]
    exact unpad_pad (by rw [← Lib.size_eq]; exact ho ht) (by have := f.k_pos; omega)
  rw [e1, e2, e3, hu] at this
  unfold unpadS at this
  rw [hu] at this
  simpa using this
theorem num_fld (w : World) (g : Nat) (f : Fld) (rest : List UInt8) (ho : f.ok) (ht : f.t = false) (h : Cur w g (f.enc ++ rest) false) (hx : (f.enc ++ rest).length ≤ 140737488355328) :
    Calls Try.prog 23 #[.pointer (some ⟨g, 0, none⟩), .int .i64 (1 + (f.sz.toNat : Int) % 8)] w (RetG w g (.int .u64 (leN ((putB f.n f.k).take 8) : Nat)) rest false) := by
  have := num_any w g _ _ (1 + (f.sz.toNat : Int) % 8) h hx
  obtain ⟨e1, e2, e3⟩ := cut_fld ho rest
  have he : f.enc = putB f.n f.k := by unfold Fld.enc; rw [ht]; rfl
  rw [e1, e2, e3] at this
  rwa [he] at this
theorem encs_take_le {l : List Fld} {j : Nat} (h : ∀ g ∈ l.take j, g.ok) : (encs (l.take j)).length ≤ 8 * j := by
  have h1 := encs_length_le _ h
  have h2 : (l.take j).length ≤ j := List.length_take_le _ _
  omega

set_option maxRecDepth 100000 in
set_option maxHeartbeats 4000000 in
theorem back_any (A : Option Addr) (n c : Nat) (l : List Fld) (w : World) (hn : n = l.length) (hc : n ≤ c) (hm : c ≤ maxLen) (hl : Flds w w.heap.size A l) :
    Calls Try.prog 5 #[.slice A n c] w fun e w' => e = .returned (.bool true) ∧ Below w.heap.size w w' := by
  have hm' : c ≤ 9223372036854775807 := by unfold maxLen at hm; exact hm
  obtain ⟨i0, hi, hz0, hz1, hz2⟩ := info_parts Try.info5
  have Hn := Lib.hid hn
  clear hn
  by_cases h1 : 30 < n
  · go_enter Try.func5, Try.ntmps5
    go_wp2_with fail
    refine (works_any w).mono ?_
    rintro e w1 ⟨rfl, hb⟩
    go_wp2_with fail
    go_ret
    exact ⟨rfl, hb⟩
  · have h1' : decide (30 < (n : Int)) = false := by simp; omega
    have h1'' : decide (30 < n) = false := by simp; omega
    go_enter Try.func5, Try.ntmps5
    go_wp2_with fail
    go_loopw [3, 4] (fun v i wr => ∃ (j : Nat) (B : Option Addr) (L d : Nat), j ≤ n ∧ i = .int .i64 j ∧ v = .slice B L d ∧ (∀ f ∈ l.take j, f.ok) ∧ wr.ownsRow w.heap.size 5 1 (.slice B L d) L (cells (encs (l.take j))) ∧ Below w.heap.size w wr) (fun _ i _ => n - (intOf i).toNat)
    case atStart => exact ⟨0, none, 0, 0, Nat.zero_le _, rfl, rfl, by simp, World.ownsRow_nil _ _ _ _, Below.refl _ _⟩
    case round =>
      obtain ⟨j, B, L, d, hj, rfl, rfl, hok, hown, hbr⟩ := hrel
      have Hok := Lib.hid hok
      clear hok
      by_cases hlt : j < n
      · obtain ⟨b, o, f, rfl, _, hf, c0, c1, c2, c3, hfn⟩ := (hl.below hbr).at_ (show j < l.length by have := Hn.out; omega)
        have hsz := f.sz.toNat_lt
        have Hf := Lib.hid hf
        have hLe : L = (encs (l.take j)).length := by have := hown.1; rw [cells_length] at this; omega
        have hL8 : L ≤ 8 * j := by rw [hLe]; exact encs_take_le Hok.out
        have hwr := hbr.size
        clear hf hLe
        cases ht : f.t
        · have Henc : Hid (f.enc = putB f.n f.k) := by show _ = _; unfold Fld.enc; rw [ht]; rfl
          have Hok' := Lib.hid (ok_snoc Hok.out Hf.out (fun h => by rw [ht] at h; cases h))
          rw [ht] at c0
          clear ht
          have hcase : (1 + (f.sz.toNat : Int) % 8 - 1 < (f.s.size : Int)) ∨ ¬ (1 + (f.sz.toNat : Int) % 8 - 1 < (f.s.size : Int)) := Classical.em _
          rcases hcase with hcase | hcase
          all_goals
            go_wp2_with fail
            refine (put_any f.n _ wr (by omega) hfn).mono ?_
            rintro e w1 ⟨A1, d1, rfl, _, _, hl1, hb1⟩
            rw [k_toNat] at hl1 ⊢
            have hown1 := own_below hown hb1
            have hb1' := hbr.trans (hb1.mono hwr)
            have hkk := f.k_pos
            have hs1 := hb1'.size
            have hpl : (putB f.n f.k).length ≤ 8 := by rw [putB_length]; omega
            go_wp2_with (at_builtin; refine wpList_append_lies rfl _ _ 23 rfl w.heap.size i0 Try.underlying23 hi hz0 hz1 hz2 _ L (encs (l.take j)) (putB f.n f.k) rfl hown1 w1.heap.size _ _ _ rfl hl1 rfl (by omega) hs1 ?_)
            intro v2 w2 hown2 hg2
            rw [← Henc.out, ← encs_snoc Hf.out] at hown2
            obtain ⟨B2, d2, rfl, hn2, _, _, _⟩ := Lies.of_own hown2
            have hb2 := hb1'.grown hg2 hs1 (own_ge hown1)
            rw [← hn2] at hown2 ⊢
            clear hn2 hown1 hl1 hpl
            go_wp2_with fail
            go_roundw
            case rel => exact ⟨j + 1, B2, _, d2, by omega, by go_num, rfl, Hok'.out, hown2, hb2⟩
            case measure => simp [intOf]; omega
        · have Henc : Hid (f.enc = padB f.s.data.toList f.k) := by show _ = _; unfold Fld.enc; rw [ht]; rfl
          rw [ht] at c0
          by_cases hfit : f.s.size + 1 ≤ f.k
          · have Hok' := Lib.hid (ok_snoc Hok.out Hf.out (fun _ => hfit))
            have Hpad := Lib.hid (pad_fld hfit)
            have hcase : decide (1 + (f.sz.toNat : Int) % 8 - 1 < (f.s.size : Int)) = false := by simp [Fld.k] at hfit ⊢; omega
            have hcase2 : ¬ (1 + (f.sz.toNat : Int) % 8 - 1 < (f.s.size : Int)) := by simp [Fld.k] at hfit ⊢; omega
            have hpl : (padB f.s.data.toList f.k).length ≤ 8 := by rw [padB_length (by rw [← Lib.size_eq]; exact hfit)]; exact f.k_pos.2
            clear ht
            go_wp2_with fail
            refine (pad_any f.s _ wr).mono ?_
            rintro e w1 ⟨A1, d1, rfl, _, _, hl1, hb1⟩
            rw [Hpad.out] at hl1 ⊢
            have hown1 := own_below hown hb1
            have hb1' := hbr.trans (hb1.mono hwr)
            have hs1 := hb1'.size
            go_wp2_with (at_builtin; refine wpList_append_lies rfl _ _ 23 rfl w.heap.size i0 Try.underlying23 hi hz0 hz1 hz2 _ L (encs (l.take j)) (padB f.s.data.toList f.k) rfl hown1 w1.heap.size _ _ _ rfl hl1 rfl (by omega) hs1 ?_)
            intro v2 w2 hown2 hg2
            rw [← Henc.out, ← encs_snoc Hf.out] at hown2
            obtain ⟨B2, d2, rfl, hn2, _, _, _⟩ := Lies.of_own hown2
            have hb2 := hb1'.grown hg2 hs1 (own_ge hown1)
            rw [← hn2] at hown2 ⊢
            clear hn2 hown1 hl1 hpl
            go_wp2_with fail
            go_roundw
            case rel => exact ⟨j + 1, B2, _, d2, by omega, by go_num, rfl, Hok'.out, hown2, hb2⟩
            case measure => simp [intOf]; omega
          · have hcase : decide (1 + (f.sz.toNat : Int) % 8 - 1 < (f.s.size : Int)) = true := by simp [Fld.k] at hfit ⊢; omega
            have hcase2 : (1 + (f.sz.toNat : Int) % 8 - 1 < (f.s.size : Int)) := by simp [Fld.k] at hfit ⊢; omega
            clear ht
            go_wp2_with fail
            refine (works_any wr).mono ?_
            rintro e w1 ⟨rfl, hb1⟩
            go_wp2_with fail
            go_ret
            exact ⟨rfl, below_seq hbr hb1⟩
      · obtain rfl : j = n := by omega
        have Hall : Hid (∀ f ∈ l, f.ok) := by
          have h := Hok.out
          rw [List.take_of_length_le (by have := Hn.out; omega)] at h
          exact h
        have hlen : (encs (l.take j)).length ≤ 8 * j := encs_take_le Hok.out
        rw [List.take_of_length_le (by have := Hn.out; omega)] at hown hlen
        obtain ⟨B', d', hv, hL, hLd, hdm, hlies⟩ := Lies.of_own hown
        injection hv with hB hL2 hd
        subst hB hd
        have hL' := Lib.hid hL
        have hL8 : L ≤ 8 * j := by omega
        clear hL2 hL hown hlen
        go_wp2_with fail
        refine (from_any _ _ _ (encs l) wr hlies hL'.out (by omega)).mono ?_
        rintro e w1 ⟨g, rfl, hg1, hcur1, hb1⟩
        have hbw1 := below_seq hbr hb1
        have hl1 := hlies.below hb1
        have hwr := hbr.size
        have hs1 := hb1.size
        clear hlies
        have hxl : ∀ i, (encs (l.drop i)).length ≤ 140737488355328 := fun i => by
          have h1 := encs_length_le (l.drop i) (fun g hg => Hall.out g (List.mem_of_mem_drop hg))
          have h2 : (l.drop i).length ≤ j := by have := Hn.out; rw [List.length_drop]; omega
          omega
        have Hxl := Lib.hid hxl
        clear hxl hb1 hbr Hok hs1
        generalize wr.heap.size = R at *
        have Hl := Lib.hid hl
        clear hl
        go_wp2_with fail
        go_loopw [9] (fun v W => ∃ i : Nat, i ≤ j ∧ v = .int .i64 i ∧ Cur W g (encs (l.drop i)) false ∧ Below w.heap.size w W ∧ Lies W R B (encs l) ∧ R ≤ W.heap.size) (fun v _ => j - (intOf v).toNat)
        case atStart => exact ⟨0, Nat.zero_le _, rfl, hcur1, hbw1, hl1, Nat.le_trans hg1 (Nat.le_of_lt hcur1.lt)⟩
        case round =>
          obtain ⟨i, hi', rfl, hcur, hB, hlb, hRW⟩ := hrel
          clear hcur1 hbw1 hl1
          by_cases hil : i < j
          · obtain ⟨b, o, f, rfl, hbw, hf, c0, c1, c2, c3, hfn⟩ := Hl.out.at_ (show i < l.length by have := Hn.out; omega)
            have hsz := f.sz.toNat_lt
            have Hok : Hid f.ok := Hall.out f (List.mem_of_getElem? hf)
            have hx := Hxl.out i
            rw [encs_drop hf] at hcur hx
            have e0 := (hB.cell (p := ⟨b, o + i * 4, none⟩) hbw).trans c0
            have e1 := (hB.cell (p := ⟨b, o + i * 4 + 1, none⟩) hbw).trans c1
            replace hcur : Cur wr.drew g (f.enc ++ encs (l.drop (i + 1))) false := hcur
            replace hB := hB.drew
            replace hlb := hlb.drew
            replace hRW : R ≤ wr.drew.heap.size := hRW
            clear hf
            cases ht : f.t
            · have Ht := Lib.hid ht
              rw [ht] at c0 e0
              clear ht
              go_wp2_with fail
              refine wp_region_held_drew (S := fun W => W.cell? ⟨b, o + i * 4, none⟩ = some (.bool false) ∧ W.cell? ⟨b, o + i * 4 + 2, none⟩ = some (.int .u64 (f.n : Int))) (by kernel_rfl) ?_ (fun hHeld => ?_)
              · exact ⟨(hB.cell (p := ⟨b, o + i * 4, none⟩) hbw).trans c0, (hB.cell (p := ⟨b, o + i * 4 + 2, none⟩) hbw).trans c2⟩
              refine wpAnyH_take (i := 0) (oi := ⟨_, _, _, _, _, _⟩) (v := ?_) rfl (by kernel_rfl) (by kernel_rfl) (by kernel_rfl) (fun _ _ _ h => h) (Or.inl ⟨by rfl, ?_⟩) (by assumption) ?_
              rotate_left
              · intro W hSW; (try dsimp only at hSW); go_simp; try with_reducible rfl
              try simp only [Act.put, List.setIfInBounds_toArray, List.set_cons_zero, List.set_cons_succ]
              refine wpAnyH_take (i := 1) (oi := ⟨_, _, _, _, _, _⟩) (v := ?_) rfl (by kernel_rfl) (by kernel_rfl) (by kernel_rfl) (fun _ _ _ h => h) (Or.inl ⟨by rfl, ?_⟩) (by assumption) ?_
              rotate_left
              · intro W hSW; (try dsimp only at hSW); go_simp; try with_reducible rfl
              try simp only [Act.put, List.setIfInBounds_toArray, List.set_cons_zero, List.set_cons_succ]
              refine wpAnyH_take (i := 2) (oi := ⟨_, _, _, _, _, _⟩) (v := ?_) rfl (by kernel_rfl) (by kernel_rfl) (by kernel_rfl) (fun _ _ _ h => h) (Or.inl ⟨by rfl, ?_⟩) (by assumption) ?_
              rotate_left
              · intro W hSW; (try dsimp only at hSW); go_simp; try with_reducible rfl
              try simp only [Act.put, List.setIfInBounds_toArray, List.set_cons_zero, List.set_cons_succ]
              refine wpAnyH_take (i := 3) (oi := ⟨_, _, _, _, _, _⟩) (v := ?_) rfl (by kernel_rfl) (by kernel_rfl) (by kernel_rfl) (fun _ _ _ h => h) (Or.inl ⟨by rfl, ?_⟩) (by assumption) ?_
              rotate_left
              · intro W hSW; (try dsimp only at hSW); go_simp; try with_reducible rfl
              try simp only [Act.put, List.setIfInBounds_toArray, List.set_cons_zero, List.set_cons_succ]
              refine wpAnyH_take (i := 4) (oi := ⟨_, _, _, _, _, _⟩) (v := ?_) rfl (by kernel_rfl) (by kernel_rfl) (by kernel_rfl) (fun _ _ _ h => h) (Or.inl ⟨by rfl, ?_⟩) (by assumption) ?_
              rotate_left
              · intro W hSW; (try dsimp only at hSW); go_simp; try with_reducible rfl
              try simp only [Act.put, List.setIfInBounds_toArray, List.set_cons_zero, List.set_cons_succ]
              refine wpAnyH_take (i := 5) (oi := ⟨_, _, _, _, _, _⟩) (v := ?_) rfl (by kernel_rfl) (by kernel_rfl) (by kernel_rfl) (fun _ _ _ h => h) (Or.inl ⟨by rfl, ?_⟩) (by assumption) ?_
              rotate_left
              · intro W hSW; (try dsimp only at hSW); go_simp; try with_reducible rfl
              try simp only [Act.put, List.setIfInBounds_toArray, List.set_cons_zero, List.set_cons_succ]
              refine wpAnyH_take (i := 6) (oi := ⟨_, _, _, _, _, _⟩) (v := undef) rfl (by kernel_rfl) (by kernel_rfl) (by kernel_rfl) (fun _ _ _ h => h) (Or.inr ⟨by rfl, rfl⟩) (by assumption) ?_
              try simp only [Act.put, List.setIfInBounds_toArray, List.set_cons_zero, List.set_cons_succ]
              refine wpAnyH_take (i := 7) (oi := ⟨_, _, _, _, _, _⟩) (v := undef) rfl (by kernel_rfl) (by kernel_rfl) (by kernel_rfl) (fun _ _ _ h => h) (Or.inr ⟨by rfl, rfl⟩) (by assumption) ?_
              try simp only [Act.put, List.setIfInBounds_toArray, List.set_cons_zero, List.set_cons_succ]
              refine wpAnyH_take (i := 8) (oi := ⟨_, _, _, _, _, _⟩) (v := undef) rfl (by kernel_rfl) (by kernel_rfl) (by kernel_rfl) (fun _ _ _ h => h) (Or.inr ⟨by rfl, rfl⟩) (by assumption) ?_
              try simp only [Act.put, List.setIfInBounds_toArray, List.set_cons_zero, List.set_cons_succ]
              refine wpAnyH_take (i := 9) (oi := ⟨_, _, _, _, _, _⟩) (v := undef) rfl (by kernel_rfl) (by kernel_rfl) (by kernel_rfl) (fun _ _ _ h => h) (Or.inr ⟨by rfl, rfl⟩) (by assumption) ?_
              try simp only [Act.put, List.setIfInBounds_toArray, List.set_cons_zero, List.set_cons_succ]
              refine wpAnyH_take (i := 10) (oi := ⟨_, _, _, _, _, _⟩) (v := undef) rfl (by kernel_rfl) (by kernel_rfl) (by kernel_rfl) (fun _ _ _ h => h) (Or.inr ⟨by rfl, rfl⟩) (by assumption) ?_
              try simp only [Act.put, List.setIfInBounds_toArray, List.set_cons_zero, List.set_cons_succ]
              refine wpAnyH_take (i := 11) (oi := ⟨_, _, _, _, _, _⟩) (v := undef) rfl (by kernel_rfl) (by kernel_rfl) (by kernel_rfl) (fun _ _ _ h => h) (Or.inr ⟨by rfl, rfl⟩) (by assumption) ?_
              try simp only [Act.put, List.setIfInBounds_toArray, List.set_cons_zero, List.set_cons_succ]
              refine wpAnyH_take (i := 12) (oi := ⟨_, _, _, _, _, _⟩) (v := undef) rfl (by kernel_rfl) (by kernel_rfl) (by kernel_rfl) (fun _ _ _ h => h) (Or.inr ⟨by rfl, rfl⟩) (by assumption) ?_
              try simp only [Act.put, List.setIfInBounds_toArray, List.set_cons_zero, List.set_cons_succ]
              refine wpAnyH_take (i := 13) (oi := ⟨_, _, _, _, _, _⟩) (v := undef) rfl (by kernel_rfl) (by kernel_rfl) (by kernel_rfl) (fun _ _ _ h => h) (Or.inr ⟨by rfl, rfl⟩) (by assumption) ?_
              try simp only [Act.put, List.setIfInBounds_toArray, List.set_cons_zero, List.set_cons_succ]
              refine wpAnyH_take (i := 14) (oi := ⟨_, _, _, _, _, _⟩) (v := undef) rfl (by kernel_rfl) (by kernel_rfl) (by kernel_rfl) (fun _ _ _ h => h) (Or.inr ⟨by rfl, rfl⟩) (by assumption) ?_
              try simp only [Act.put, List.setIfInBounds_toArray, List.set_cons_zero, List.set_cons_succ]
              refine wpAnyH_take (i := 15) (oi := ⟨_, _, _, _, _, _⟩) (v := ?_) rfl (by kernel_rfl) (by kernel_rfl) (by kernel_rfl) (fun _ _ _ h => h) (Or.inl ⟨by rfl, ?_⟩) (by assumption) ?_
              rotate_left
              · intro W hSW; (try dsimp only at hSW); go_simp; try with_reducible rfl
              try simp only [Act.put, List.setIfInBounds_toArray, List.set_cons_zero, List.set_cons_succ]
              refine wpAnyH_take (i := 16) (oi := ⟨_, _, _, _, _, _⟩) (v := ?_) rfl (by kernel_rfl) (by kernel_rfl) (by kernel_rfl) (fun _ _ _ h => h) (Or.inl ⟨by rfl, ?_⟩) (by assumption) ?_
              rotate_left
              · intro W hSW; (try dsimp only at hSW); go_simp; try with_reducible rfl
              try simp only [Act.put, List.setIfInBounds_toArray, List.set_cons_zero, List.set_cons_succ]
              refine wpAnyH_take (i := 17) (oi := ⟨_, _, _, _, _, _⟩) (v := ?_) rfl (by kernel_rfl) (by kernel_rfl) (by kernel_rfl) (fun _ _ _ h => h) (Or.inl ⟨by rfl, ?_⟩) (by assumption) ?_
              rotate_left
              · intro W hSW; (try dsimp only at hSW); go_simp; try with_reducible rfl
              try simp only [Act.put, List.setIfInBounds_toArray, List.set_cons_zero, List.set_cons_succ]
              refine wpAnyH_take (i := 18) (oi := ⟨_, _, _, _, _, _⟩) (v := ?_) rfl (by kernel_rfl) (by kernel_rfl) (by kernel_rfl) (fun _ _ _ h => h) (Or.inl ⟨by rfl, ?_⟩) (by assumption) ?_
              rotate_left
              · intro W hSW; (try dsimp only at hSW); go_simp; try with_reducible rfl
              try simp only [Act.put, List.setIfInBounds_toArray, List.set_cons_zero, List.set_cons_succ]
              refine wpAnyH_take (i := 19) (oi := ⟨_, _, _, _, _, _⟩) (v := ?_) rfl (by kernel_rfl) (by kernel_rfl) (by kernel_rfl) (fun _ _ _ h => h) (Or.inl ⟨by rfl, ?_⟩) (by assumption) ?_
              rotate_left
              · intro W hSW; (try dsimp only at hSW); go_simp; try with_reducible rfl
              try simp only [Act.put, List.setIfInBounds_toArray, List.set_cons_zero, List.set_cons_succ]
              refine wpAnyH_take (i := 20) (oi := ⟨_, _, _, _, _, _⟩) (v := ?_) rfl (by kernel_rfl) (by kernel_rfl) (by kernel_rfl) (fun _ _ _ h => h) (Or.inl ⟨by rfl, ?_⟩) (by assumption) ?_
              rotate_left
              · intro W hSW; (try dsimp only at hSW); go_simp; try with_reducible rfl
              try simp only [Act.put, List.setIfInBounds_toArray, List.set_cons_zero, List.set_cons_succ]
              refine wpAnyH_take (i := 21) (oi := ⟨_, _, _, _, _, _⟩) (v := ?_) rfl (by kernel_rfl) (by kernel_rfl) (by kernel_rfl) (fun _ _ _ h => h) (Or.inl ⟨by rfl, ?_⟩) (by assumption) ?_
              rotate_left
              · intro W hSW; (try dsimp only at hSW); go_simp; try with_reducible rfl
              try simp only [Act.put, List.setIfInBounds_toArray, List.set_cons_zero, List.set_cons_succ]
              refine wpAnyH_take (i := 22) (oi := ⟨_, _, _, _, _, _⟩) (v := ?_) rfl (by kernel_rfl) (by kernel_rfl) (by kernel_rfl) (fun _ _ _ h => h) (Or.inl ⟨by rfl, ?_⟩) (by assumption) ?_
              rotate_left
              · intro W hSW; (try dsimp only at hSW); go_simp; try with_reducible rfl
              try simp only [Act.put, List.setIfInBounds_toArray, List.set_cons_zero, List.set_cons_succ]
              refine wpAnyH_take (i := 23) (oi := ⟨_, _, _, _, _, _⟩) (v := ?_) rfl (by kernel_rfl) (by kernel_rfl) (by kernel_rfl) (fun _ _ _ h => h) (Or.inl ⟨by rfl, ?_⟩) (by assumption) ?_
              rotate_left
              · intro W hSW; (try dsimp only at hSW); go_simp; try with_reducible rfl
              try simp only [Act.put, List.setIfInBounds_toArray, List.set_cons_zero, List.set_cons_succ]
              refine wpAnyH_take (i := 24) (oi := ⟨_, _, _, _, _, _⟩) (v := ?_) rfl (by kernel_rfl) (by kernel_rfl) (by kernel_rfl) (fun _ _ _ h => h) (Or.inl ⟨by rfl, ?_⟩) (by assumption) ?_
              rotate_left
              · intro W hSW; (try dsimp only at hSW); go_simp; try with_reducible rfl
              try simp only [Act.put, List.setIfInBounds_toArray, List.set_cons_zero, List.set_cons_succ]
              refine wpAnyH_take (i := 25) (oi := ⟨_, _, _, _, _, _⟩) (v := ?_) rfl (by kernel_rfl) (by kernel_rfl) (by kernel_rfl) (fun _ _ _ h => h) (Or.inl ⟨by rfl, ?_⟩) (by assumption) ?_
              rotate_left
              · intro W hSW; (try dsimp only at hSW); go_simp; try with_reducible rfl
              try simp only [Act.put, List.setIfInBounds_toArray, List.set_cons_zero, List.set_cons_succ]
              refine wpAnyH_take (i := 27) (oi := ⟨_, _, _, _, _, _⟩) (v := ?_) rfl (by kernel_rfl) (by kernel_rfl) (by kernel_rfl) (fun _ _ _ h => h) (Or.inl ⟨by rfl, ?_⟩) (by assumption) ?_
              rotate_left
              · intro W hSW; (try dsimp only at hSW); go_simp; try with_reducible rfl
              try simp only [Act.put, List.setIfInBounds_toArray, List.set_cons_zero, List.set_cons_succ]
              refine wpAnyH_take (i := 28) (oi := ⟨_, _, _, _, _, _⟩) (v := ?_) rfl (by kernel_rfl) (by kernel_rfl) (by kernel_rfl) (fun _ _ _ h => h) (Or.inl ⟨by rfl, ?_⟩) (by assumption) ?_
              rotate_left
              · intro W hSW; (try dsimp only at hSW); go_simp; try with_reducible rfl
              try simp only [Act.put, List.setIfInBounds_toArray, List.set_cons_zero, List.set_cons_succ]
              refine wpAnyH_take (i := 29) (oi := ⟨_, _, _, _, _, _⟩) (v := ?_) rfl (by kernel_rfl) (by kernel_rfl) (by kernel_rfl) (fun _ _ _ h => h) (Or.inl ⟨by rfl, ?_⟩) (by assumption) ?_
              rotate_left
              · intro W hSW; (try dsimp only at hSW); go_simp; try with_reducible rfl
              try simp only [Act.put, List.setIfInBounds_toArray, List.set_cons_zero, List.set_cons_succ]
              refine wpAnyH_take (i := 30) (oi := ⟨_, _, _, _, _, _⟩) (v := ?_) rfl (by kernel_rfl) (by kernel_rfl) (by kernel_rfl) (fun _ _ _ h => h) (Or.inl ⟨by rfl, ?_⟩) (by assumption) ?_
              rotate_left
              · intro W hSW; (try dsimp only at hSW); go_simp; try with_reducible rfl
              try simp only [Act.put, List.setIfInBounds_toArray, List.set_cons_zero, List.set_cons_succ]
              refine wpAnyH_take (i := 31) (oi := ⟨_, _, _, _, _, _⟩) (v := ?_) rfl (by kernel_rfl) (by kernel_rfl) (by kernel_rfl) (fun _ _ _ h => h) (Or.inl ⟨by rfl, ?_⟩) (by assumption) ?_
              rotate_left
              · intro W hSW; (try dsimp only at hSW); go_simp; try with_reducible rfl
              try simp only [Act.put, List.setIfInBounds_toArray, List.set_cons_zero, List.set_cons_succ]
              refine wpAnyH_take (i := 32) (oi := ⟨_, _, _, _, _, _⟩) (v := ?_) rfl (by kernel_rfl) (by kernel_rfl) (by kernel_rfl) (fun _ _ _ h => h) (Or.inl ⟨by rfl, ?_⟩) (by assumption) ?_
              rotate_left
              · intro W hSW; (try dsimp only at hSW); go_simp; try with_reducible rfl
              try simp only [Act.put, List.setIfInBounds_toArray, List.set_cons_zero, List.set_cons_succ]
              refine wpAnyH_ready (rs := [26]) (by kernel_rfl) (by simp) ?_
              refine AllReadyH.cons (o := ⟨_, _, _, _, _, _⟩) rfl (fun K hK => ?_) AllReadyH.nil
              go_simp
              refine (num_fld wr.drew g f _ Hok.out Ht.out hcur hx).mono ?_
              rintro e W ⟨rfl, hcur', hgr⟩
              have hlb' := hlb.grown hgr hRW (fun k e => by injection e with e; omega)
              have hRW' := Nat.le_trans hRW hgr.size
              have hB' := hB.grown hgr hB.size (fun k e => by injection e with e; omega)
              generalize hval : leN ((putB f.n f.k).take 8) = val
              have Hval := Lib.hid hval
              clear hval
              try simp only []
              refine hK.out _ _ ?_ (fun hHeld => ?_)
              · exact ⟨(hB'.cell (p := ⟨b, o + i * 4, none⟩) hbw).trans c0, (hB'.cell (p := ⟨b, o + i * 4 + 2, none⟩) hbw).trans c2⟩
              clear hK K
              try simp only [Act.put, List.setIfInBounds_toArray, List.set_cons_zero, List.set_cons_succ]
              refine wpAnyH_ready (rs := [33]) (by kernel_rfl) (by simp) ?_
              refine AllReadyH.cons (o := ⟨_, _, _, _, _, _⟩) rfl (fun K hK => ?_) AllReadyH.nil
              go_simp
              refine (rput_any f.k f.n _ _ W rfl (k_toNat f) (by omega) (by omega) hfn).mono ?_
              rintro e W2 ⟨A2, d2, rfl, hd2, hm2, hl2, hb2, _⟩
              have hcur2 := hcur'.below hb2
              have hlb2 := hlb'.below (hb2.mono hRW')
              have hRW2 := Nat.le_trans hRW' hb2.size
              have hB2 := hB'.trans (hb2.mono hB'.size)
              try simp only []
              refine hK.out _ _ ?_ (fun hHeld => ?_)
              · exact ⟨(hB2.cell (p := ⟨b, o + i * 4, none⟩) hbw).trans c0, (hB2.cell (p := ⟨b, o + i * 4 + 2, none⟩) hbw).trans c2⟩
              clear hK K
              try simp only [Act.put, List.setIfInBounds_toArray, List.set_cons_zero, List.set_cons_succ]
              refine wpAnyH_ready (rs := [34]) (by kernel_rfl) (by simp) ?_
              refine AllReadyH.cons (o := ⟨_, _, _, _, _, _⟩) rfl (fun K hK => ?_) AllReadyH.nil
              go_simp
              refine (rget_any (putB f.n f.k) _ _ _ W2 _ rfl hd2 hl2).mono ?_
              rintro e W3 ⟨rfl, m3, rfl⟩
              have hcur3 := hcur2.drewN m3
              have hlb3 := hlb2.drewN m3
              have hRW3 : R ≤ (W2.drewN m3).heap.size := hRW2
              have hB3 := below_drewN' hB2 m3
              rw [Hval.out]
              generalize W2.drewN m3 = W3 at *
              try simp only []
              refine hK.out _ _ ?_ (fun hHeld => ?_)
              · exact ⟨(hB3.cell (p := ⟨b, o + i * 4, none⟩) hbw).trans c0, (hB3.cell (p := ⟨b, o + i * 4 + 2, none⟩) hbw).trans c2⟩
              clear hK K
              try simp only [Act.put, List.setIfInBounds_toArray, List.set_cons_zero, List.set_cons_succ]
              refine wpAnyH_take (i := 35) (oi := ⟨_, _, _, _, _, _⟩) (v := ?_) rfl (by kernel_rfl) (by kernel_rfl) (by kernel_rfl) (fun _ _ _ h => h) (Or.inl ⟨by rfl, ?_⟩) (by assumption) ?_
              rotate_left
              · intro W hSW; (try dsimp only at hSW); go_simp; try with_reducible rfl
              try simp only [Act.put, List.setIfInBounds_toArray, List.set_cons_zero, List.set_cons_succ]
              refine wpAnyH_take (i := 36) (oi := ⟨_, _, _, _, _, _⟩) (v := ?_) rfl (by kernel_rfl) (by kernel_rfl) (by kernel_rfl) (fun _ _ _ h => h) (Or.inl ⟨by rfl, ?_⟩) (by assumption) ?_
              rotate_left
              · intro W hSW; (try dsimp only at hSW); go_simp; try with_reducible rfl
              try simp only [Act.put, List.setIfInBounds_toArray, List.set_cons_zero, List.set_cons_succ]
              refine wpAnyH_take (i := 37) (oi := ⟨_, _, _, _, _, _⟩) (v := ?_) rfl (by kernel_rfl) (by kernel_rfl) (by kernel_rfl) (fun _ _ _ h => h) (Or.inl ⟨by rfl, ?_⟩) (by assumption) ?_
              rotate_left
              · intro W hSW; (try dsimp only at hSW); go_simp; try with_reducible rfl
              try simp only [Act.put, List.setIfInBounds_toArray, List.set_cons_zero, List.set_cons_succ]
              refine wpAnyH_done (by kernel_rfl) ?_ _
              go_wp2_with fail
              go_roundw
              case rel => exact ⟨i + 1, by omega, by go_num, hcur3, hB3, hlb3, hRW3⟩
              case measure => simp [intOf]; omega
            · have Ht := Lib.hid ht
              rw [ht] at c0 e0
              clear ht
              go_wp2_with fail
              refine wp_region_held_drew (S := fun W => W.cell? ⟨b, o + i * 4, none⟩ = some (.bool true) ∧ W.cell? ⟨b, o + i * 4 + 3, none⟩ = some (.string f.s)) (by kernel_rfl) ?_ (fun hHeld => ?_)
              · exact ⟨(hB.cell (p := ⟨b, o + i * 4, none⟩) hbw).trans c0, (hB.cell (p := ⟨b, o + i * 4 + 3, none⟩) hbw).trans c3⟩
              refine wpAnyH_take (i := 0) (oi := ⟨_, _, _, _, _, _⟩) (v := ?_) rfl (by kernel_rfl) (by kernel_rfl) (by kernel_rfl) (fun _ _ _ h => h) (Or.inl ⟨by rfl, ?_⟩) (by assumption) ?_
              rotate_left
              · intro W hSW; (try dsimp only at hSW); go_simp; try with_reducible rfl
              try simp only [Act.put, List.setIfInBounds_toArray, List.set_cons_zero, List.set_cons_succ]
              refine wpAnyH_take (i := 1) (oi := ⟨_, _, _, _, _, _⟩) (v := ?_) rfl (by kernel_rfl) (by kernel_rfl) (by kernel_rfl) (fun _ _ _ h => h) (Or.inl ⟨by rfl, ?_⟩) (by assumption) ?_
              rotate_left
              · intro W hSW; (try dsimp only at hSW); go_simp; try with_reducible rfl
              try simp only [Act.put, List.setIfInBounds_toArray, List.set_cons_zero, List.set_cons_succ]
              refine wpAnyH_take (i := 2) (oi := ⟨_, _, _, _, _, _⟩) (v := ?_) rfl (by kernel_rfl) (by kernel_rfl) (by kernel_rfl) (fun _ _ _ h => h) (Or.inl ⟨by rfl, ?_⟩) (by assumption) ?_
              rotate_left
              · intro W hSW; (try dsimp only at hSW); go_simp; try with_reducible rfl
              try simp only [Act.put, List.setIfInBounds_toArray, List.set_cons_zero, List.set_cons_succ]
              refine wpAnyH_take (i := 3) (oi := ⟨_, _, _, _, _, _⟩) (v := ?_) rfl (by kernel_rfl) (by kernel_rfl) (by kernel_rfl) (fun _ _ _ h => h) (Or.inl ⟨by rfl, ?_⟩) (by assumption) ?_
              rotate_left
              · intro W hSW; (try dsimp only at hSW); go_simp; try with_reducible rfl
              try simp only [Act.put, List.setIfInBounds_toArray, List.set_cons_zero, List.set_cons_succ]
              refine wpAnyH_take (i := 4) (oi := ⟨_, _, _, _, _, _⟩) (v := ?_) rfl (by kernel_rfl) (by kernel_rfl) (by kernel_rfl) (fun _ _ _ h => h) (Or.inl ⟨by rfl, ?_⟩) (by assumption) ?_
              rotate_left
              · intro W hSW; (try dsimp only at hSW); go_simp; try with_reducible rfl
              try simp only [Act.put, List.setIfInBounds_toArray, List.set_cons_zero, List.set_cons_succ]
              refine wpAnyH_take (i := 5) (oi := ⟨_, _, _, _, _, _⟩) (v := ?_) rfl (by kernel_rfl) (by kernel_rfl) (by kernel_rfl) (fun _ _ _ h => h) (Or.inl ⟨by rfl, ?_⟩) (by assumption) ?_
              rotate_left
              · intro W hSW; (try dsimp only at hSW); go_simp; try with_reducible rfl
              try simp only [Act.put, List.setIfInBounds_toArray, List.set_cons_zero, List.set_cons_succ]
              refine wpAnyH_take (i := 6) (oi := ⟨_, _, _, _, _, _⟩) (v := ?_) rfl (by kernel_rfl) (by kernel_rfl) (by kernel_rfl) (fun _ _ _ h => h) (Or.inl ⟨by rfl, ?_⟩) (by assumption) ?_
              rotate_left
              · intro W hSW; (try dsimp only at hSW); go_simp; try with_reducible rfl
              try simp only [Act.put, List.setIfInBounds_toArray, List.set_cons_zero, List.set_cons_succ]
              refine wpAnyH_take (i := 7) (oi := ⟨_, _, _, _, _, _⟩) (v := ?_) rfl (by kernel_rfl) (by kernel_rfl) (by kernel_rfl) (fun _ _ _ h => h) (Or.inl ⟨by rfl, ?_⟩) (by assumption) ?_
              rotate_left
              · intro W hSW; (try dsimp only at hSW); go_simp; try with_reducible rfl
              try simp only [Act.put, List.setIfInBounds_toArray, List.set_cons_zero, List.set_cons_succ]
              refine wpAnyH_take (i := 9) (oi := ⟨_, _, _, _, _, _⟩) (v := ?_) rfl (by kernel_rfl) (by kernel_rfl) (by kernel_rfl) (fun _ _ _ h => h) (Or.inl ⟨by rfl, ?_⟩) (by assumption) ?_
              rotate_left
              · intro W hSW; (try dsimp only at hSW); go_simp; try with_reducible rfl
              try simp only [Act.put, List.setIfInBounds_toArray, List.set_cons_zero, List.set_cons_succ]
              refine wpAnyH_take (i := 10) (oi := ⟨_, _, _, _, _, _⟩) (v := ?_) rfl (by kernel_rfl) (by kernel_rfl) (by kernel_rfl) (fun _ _ _ h => h) (Or.inl ⟨by rfl, ?_⟩) (by assumption) ?_
              rotate_left
              · intro W hSW; (try dsimp only at hSW); go_simp; try with_reducible rfl
              try simp only [Act.put, List.setIfInBounds_toArray, List.set_cons_zero, List.set_cons_succ]
              refine wpAnyH_take (i := 11) (oi := ⟨_, _, _, _, _, _⟩) (v := ?_) rfl (by kernel_rfl) (by kernel_rfl) (by kernel_rfl) (fun _ _ _ h => h) (Or.inl ⟨by rfl, ?_⟩) (by assumption) ?_
              rotate_left
              · intro W hSW; (try dsimp only at hSW); go_simp; try with_reducible rfl
              try simp only [Act.put, List.setIfInBounds_toArray, List.set_cons_zero, List.set_cons_succ]
              refine wpAnyH_take (i := 12) (oi := ⟨_, _, _, _, _, _⟩) (v := ?_) rfl (by kernel_rfl) (by kernel_rfl) (by kernel_rfl) (fun _ _ _ h => h) (Or.inl ⟨by rfl, ?_⟩) (by assumption) ?_
              rotate_left
              · intro W hSW; (try dsimp only at hSW); go_simp; try with_reducible rfl
              try simp only [Act.put, List.setIfInBounds_toArray, List.set_cons_zero, List.set_cons_succ]
              refine wpAnyH_take (i := 13) (oi := ⟨_, _, _, _, _, _⟩) (v := ?_) rfl (by kernel_rfl) (by kernel_rfl) (by kernel_rfl) (fun _ _ _ h => h) (Or.inl ⟨by rfl, ?_⟩) (by assumption) ?_
              rotate_left
              · intro W hSW; (try dsimp only at hSW); go_simp; try with_reducible rfl
              try simp only [Act.put, List.setIfInBounds_toArray, List.set_cons_zero, List.set_cons_succ]
              refine wpAnyH_ready (rs := [8]) (by kernel_rfl) (by simp) ?_
              refine AllReadyH.cons (o := ⟨_, _, _, _, _, _⟩) rfl (fun K hK => ?_) AllReadyH.nil
              go_simp
              refine (text_fld wr.drew g f _ Hok.out Ht.out hcur hx).mono ?_
              rintro e W ⟨rfl, hcur', hgr⟩
              have hlb' := hlb.grown hgr hRW (fun k e => by injection e with e; omega)
              have hRW' := Nat.le_trans hRW hgr.size
              have hB' := hB.grown hgr hB.size (fun k e => by injection e with e; omega)
              try simp only []
              refine hK.out _ _ ?_ (fun hHeld => ?_)
              · exact ⟨(hB'.cell (p := ⟨b, o + i * 4, none⟩) hbw).trans c0, (hB'.cell (p := ⟨b, o + i * 4 + 3, none⟩) hbw).trans c3⟩
              clear hK K
              try simp only [Act.put, List.setIfInBounds_toArray, List.set_cons_zero, List.set_cons_succ]
              refine wpAnyH_take (i := 14) (oi := ⟨_, _, _, _, _, _⟩) (v := ?_) rfl (by kernel_rfl) (by kernel_rfl) (by kernel_rfl) (fun _ _ _ h => h) (Or.inl ⟨by rfl, ?_⟩) (by assumption) ?_
              rotate_left
              · intro W hSW; (try dsimp only at hSW); go_simp; try with_reducible rfl
              try simp only [Act.put, List.setIfInBounds_toArray, List.set_cons_zero, List.set_cons_succ]
              refine wpAnyH_take (i := 15) (oi := ⟨_, _, _, _, _, _⟩) (v := ?_) rfl (by kernel_rfl) (by kernel_rfl) (by kernel_rfl) (fun _ _ _ h => h) (Or.inl ⟨by rfl, ?_⟩) (by assumption) ?_
              rotate_left
              · intro W hSW; (try dsimp only at hSW); go_simp; try with_reducible rfl
              try simp only [Act.put, List.setIfInBounds_toArray, List.set_cons_zero, List.set_cons_succ]
              refine wpAnyH_take (i := 16) (oi := ⟨_, _, _, _, _, _⟩) (v := ?_) rfl (by kernel_rfl) (by kernel_rfl) (by kernel_rfl) (fun _ _ _ h => h) (Or.inl ⟨by rfl, ?_⟩) (by assumption) ?_
              rotate_left
              · intro W hSW; (try dsimp only at hSW); go_simp; try with_reducible rfl
              try simp only [Act.put, List.setIfInBounds_toArray, List.set_cons_zero, List.set_cons_succ]
              refine wpAnyH_take (i := 17) (oi := ⟨_, _, _, _, _, _⟩) (v := ?_) rfl (by kernel_rfl) (by kernel_rfl) (by kernel_rfl) (fun _ _ _ h => h) (Or.inl ⟨by rfl, ?_⟩) (by assumption) ?_
              rotate_left
              · intro W hSW; (try dsimp only at hSW); go_simp; try with_reducible rfl
              try simp only [Act.put, List.setIfInBounds_toArray, List.set_cons_zero, List.set_cons_succ]
              refine wpAnyH_take (i := 18) (oi := ⟨_, _, _, _, _, _⟩) (v := ?_) rfl (by kernel_rfl) (by kernel_rfl) (by kernel_rfl) (fun _ _ _ h => h) (Or.inl ⟨by rfl, ?_⟩) (by assumption) ?_
              rotate_left
              · intro W hSW; (try dsimp only at hSW); go_simp; try with_reducible rfl
              try simp only [Act.put, List.setIfInBounds_toArray, List.set_cons_zero, List.set_cons_succ]
              refine wpAnyH_take (i := 19) (oi := ⟨_, _, _, _, _, _⟩) (v := ?_) rfl (by kernel_rfl) (by kernel_rfl) (by kernel_rfl) (fun _ _ _ h => h) (Or.inl ⟨by rfl, ?_⟩) (by assumption) ?_
              rotate_left
              · intro W hSW; (try dsimp only at hSW); go_simp; try with_reducible rfl
              try simp only [Act.put, List.setIfInBounds_toArray, List.set_cons_zero, List.set_cons_succ]
              refine wpAnyH_take (i := 20) (oi := ⟨_, _, _, _, _, _⟩) (v := ?_) rfl (by kernel_rfl) (by kernel_rfl) (by kernel_rfl) (fun _ _ _ h => h) (Or.inl ⟨by rfl, ?_⟩) (by assumption) ?_
              rotate_left
              · intro W hSW; (try dsimp only at hSW); go_simp; try with_reducible rfl
              try simp only [Act.put, List.setIfInBounds_toArray, List.set_cons_zero, List.set_cons_succ]
              refine wpAnyH_take (i := 21) (oi := ⟨_, _, _, _, _, _⟩) (v := ?_) rfl (by kernel_rfl) (by kernel_rfl) (by kernel_rfl) (fun _ _ _ h => h) (Or.inl ⟨by rfl, ?_⟩) (by assumption) ?_
              rotate_left
              · intro W hSW; (try dsimp only at hSW); go_simp; try with_reducible rfl
              try simp only [Act.put, List.setIfInBounds_toArray, List.set_cons_zero, List.set_cons_succ]
              refine wpAnyH_take (i := 22) (oi := ⟨_, _, _, _, _, _⟩) (v := ?_) rfl (by kernel_rfl) (by kernel_rfl) (by kernel_rfl) (fun _ _ _ h => h) (Or.inl ⟨by rfl, ?_⟩) (by assumption) ?_
              rotate_left
              · intro W hSW; (try dsimp only at hSW); go_simp; try with_reducible rfl
              try simp only [Act.put, List.setIfInBounds_toArray, List.set_cons_zero, List.set_cons_succ]
              refine wpAnyH_take (i := 23) (oi := ⟨_, _, _, _, _, _⟩) (v := ?_) rfl (by kernel_rfl) (by kernel_rfl) (by kernel_rfl) (fun _ _ _ h => h) (Or.inl ⟨by rfl, ?_⟩) (by assumption) ?_
              rotate_left
              · intro W hSW; (try dsimp only at hSW); go_simp; try with_reducible rfl
              try simp only [Act.put, List.setIfInBounds_toArray, List.set_cons_zero, List.set_cons_succ]
              refine wpAnyH_take (i := 24) (oi := ⟨_, _, _, _, _, _⟩) (v := undef) rfl (by kernel_rfl) (by kernel_rfl) (by kernel_rfl) (fun _ _ _ h => h) (Or.inr ⟨by rfl, rfl⟩) (by assumption) ?_
              try simp only [Act.put, List.setIfInBounds_toArray, List.set_cons_zero, List.set_cons_succ]
              refine wpAnyH_take (i := 25) (oi := ⟨_, _, _, _, _, _⟩) (v := undef) rfl (by kernel_rfl) (by kernel_rfl) (by kernel_rfl) (fun _ _ _ h => h) (Or.inr ⟨by rfl, rfl⟩) (by assumption) ?_
              try simp only [Act.put, List.setIfInBounds_toArray, List.set_cons_zero, List.set_cons_succ]
              refine wpAnyH_take (i := 26) (oi := ⟨_, _, _, _, _, _⟩) (v := undef) rfl (by kernel_rfl) (by kernel_rfl) (by kernel_rfl) (fun _ _ _ h => h) (Or.inr ⟨by rfl, rfl⟩) (by assumption) ?_
              try simp only [Act.put, List.setIfInBounds_toArray, List.set_cons_zero, List.set_cons_succ]
              refine wpAnyH_take (i := 27) (oi := ⟨_, _, _, _, _, _⟩) (v := undef) rfl (by kernel_rfl) (by kernel_rfl) (by kernel_rfl) (fun _ _ _ h => h) (Or.inr ⟨by rfl, rfl⟩) (by assumption) ?_
              try simp only [Act.put, List.setIfInBounds_toArray, List.set_cons_zero, List.set_cons_succ]
              refine wpAnyH_take (i := 28) (oi := ⟨_, _, _, _, _, _⟩) (v := undef) rfl (by kernel_rfl) (by kernel_rfl) (by kernel_rfl) (fun _ _ _ h => h) (Or.inr ⟨by rfl, rfl⟩) (by assumption) ?_
              try simp only [Act.put, List.setIfInBounds_toArray, List.set_cons_zero, List.set_cons_succ]
              refine wpAnyH_take (i := 29) (oi := ⟨_, _, _, _, _, _⟩) (v := undef) rfl (by kernel_rfl) (by kernel_rfl) (by kernel_rfl) (fun _ _ _ h => h) (Or.inr ⟨by rfl, rfl⟩) (by assumption) ?_
              try simp only [Act.put, List.setIfInBounds_toArray, List.set_cons_zero, List.set_cons_succ]
              refine wpAnyH_take (i := 30) (oi := ⟨_, _, _, _, _, _⟩) (v := undef) rfl (by kernel_rfl) (by kernel_rfl) (by kernel_rfl) (fun _ _ _ h => h) (Or.inr ⟨by rfl, rfl⟩) (by assumption) ?_
              try simp only [Act.put, List.setIfInBounds_toArray, List.set_cons_zero, List.set_cons_succ]
              refine wpAnyH_take (i := 31) (oi := ⟨_, _, _, _, _, _⟩) (v := undef) rfl (by kernel_rfl) (by kernel_rfl) (by kernel_rfl) (fun _ _ _ h => h) (Or.inr ⟨by rfl, rfl⟩) (by assumption) ?_
              try simp only [Act.put, List.setIfInBounds_toArray, List.set_cons_zero, List.set_cons_succ]
              refine wpAnyH_take (i := 32) (oi := ⟨_, _, _, _, _, _⟩) (v := undef) rfl (by kernel_rfl) (by kernel_rfl) (by kernel_rfl) (fun _ _ _ h => h) (Or.inr ⟨by rfl, rfl⟩) (by assumption) ?_
              try simp only [Act.put, List.setIfInBounds_toArray, List.set_cons_zero, List.set_cons_succ]
              refine wpAnyH_take (i := 33) (oi := ⟨_, _, _, _, _, _⟩) (v := undef) rfl (by kernel_rfl) (by kernel_rfl) (by kernel_rfl) (fun _ _ _ h => h) (Or.inr ⟨by rfl, rfl⟩) (by assumption) ?_
              try simp only [Act.put, List.setIfInBounds_toArray, List.set_cons_zero, List.set_cons_succ]
              refine wpAnyH_take (i := 34) (oi := ⟨_, _, _, _, _, _⟩) (v := undef) rfl (by kernel_rfl) (by kernel_rfl) (by kernel_rfl) (fun _ _ _ h => h) (Or.inr ⟨by rfl, rfl⟩) (by assumption) ?_
              try simp only [Act.put, List.setIfInBounds_toArray, List.set_cons_zero, List.set_cons_succ]
              refine wpAnyH_take (i := 35) (oi := ⟨_, _, _, _, _, _⟩) (v := undef) rfl (by kernel_rfl) (by kernel_rfl) (by kernel_rfl) (fun _ _ _ h => h) (Or.inr ⟨by rfl, rfl⟩) (by assumption) ?_
              try simp only [Act.put, List.setIfInBounds_toArray, List.set_cons_zero, List.set_cons_succ]
              refine wpAnyH_take (i := 36) (oi := ⟨_, _, _, _, _, _⟩) (v := ?_) rfl (by kernel_rfl) (by kernel_rfl) (by kernel_rfl) (fun _ _ _ h => h) (Or.inl ⟨by rfl, ?_⟩) (by assumption) ?_
              rotate_left
              · intro W hSW; (try dsimp only at hSW); go_simp; try with_reducible rfl
              try simp only [Act.put, List.setIfInBounds_toArray, List.set_cons_zero, List.set_cons_succ]
              refine wpAnyH_take (i := 37) (oi := ⟨_, _, _, _, _, _⟩) (v := ?_) rfl (by kernel_rfl) (by kernel_rfl) (by kernel_rfl) (fun _ _ _ h => h) (Or.inl ⟨by rfl, ?_⟩) (by assumption) ?_
              rotate_left
              · intro W hSW; (try dsimp only at hSW); go_simp; try with_reducible rfl
              try simp only [Act.put, List.setIfInBounds_toArray, List.set_cons_zero, List.set_cons_succ]
              refine wpAnyH_done (by kernel_rfl) ?_ _
              go_wp2_with fail
              go_roundw
              case rel => exact ⟨i + 1, by omega, by go_num, hcur', hB', hlb', hRW'⟩
              case measure => simp [intOf]; omega
          · obtain rfl : i = j := by omega
            have hnil : encs (l.drop i) = [] := by rw [List.drop_eq_nil_of_le (by have := Hn.out; omega)]; rfl
            rw [hnil] at hcur
            clear hnil
            have hxs : ([] : List UInt8).length ≤ 140737488355328 := by simp
            go_wp2_with fail
            refine (rest_any wr g [] false hcur hxs).mono ?_
            rintro e w2 ⟨rfl, rfl⟩
            rw [show (!false && zeros []) = true by decide]
            go_wp2_with fail
            refine (right_any wr g [] false hcur).mono ?_
            rintro e w2 ⟨rfl, rfl⟩
            rcases (show L = 0 ∨ 0 < L by omega) with hL0 | hL0
            · have hd0 : ((L : Int) == 0) = true := by rw [beq_iff_eq]; omega
              have HL0 := Lib.hid hL0
              clear hL0
              go_wp2_with fail
              refine (works_any wr).mono ?_
              rintro e w2 ⟨rfl, hb2⟩
              go_wp2_with fail
              go_ret
              exact ⟨rfl, below_seq hB hb2⟩
            · have hd0 : ((L : Int) == 0) = false := by rw [beq_eq_false_iff_ne]; omega
              have hLm : L ≤ 9223372036854775807 := by omega
              have hLd' : (L : Int) - 1 ≤ (d : Int) := by omega
              have hLd0 : 0 ≤ (L : Int) - 1 := by omega
              have hlt := (hlb.take (L - 1)).le hRW
              have hlen : L - 1 = ((encs l).take (L - 1)).length := by have := hL'.out; rw [List.length_take]; omega
              have Hlen := Lib.hid hlen
              clear hlen
              go_wp2_with fail
              refine (from_any _ _ _ _ wr hlt Hlen.out (by omega)).mono ?_
              rintro e w2 ⟨g2, rfl, hg2, hcur2, hb2⟩
              have hB2 := below_seq hB hb2
              have hw2 := hB.size
              clear hcur hlb hB hlt
              go_wp2_with fail
              refine (bytes_stop w2 g2 _ false _ hcur2 (by have := Hlen.out; omega) ?_).mono ?_
              · have := Hlen.out
                simp only [cutBad, Bool.false_or, decide_eq_true_eq]
                omega
              rintro e w3 ⟨A3, n3, c3, k3, rfl, _, _, _, hcur3, hgr3⟩
              have hB3 := hB2.grown hgr3 hB2.size (fun k e => by injection e with e; omega)
              clear hcur2 hB2 hgr3
              go_wp2_with fail
              refine (right_any w3 g2 _ true hcur3).mono ?_
              rintro e w4 ⟨rfl, rfl⟩
              go_wp2_with fail
              refine (rest_any w3 g2 _ true hcur3 (by have := Hlen.out; omega)).mono ?_
              rintro e w4 ⟨rfl, rfl⟩
              go_wp2_with fail
              refine (works_any w3).mono ?_
              rintro e w4 ⟨rfl, hb4⟩
              go_wp2_with fail
              go_ret
              exact ⟨rfl, below_seq hB3 hb4⟩
end Go.Proofs.Ytpgddlajlehilaa
