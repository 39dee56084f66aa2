/-
  Layer 6: the contract of Pending.
-/
import Derived.Test.YtamjkmelfpdhiaaDiskTw
namespace Go.Proofs.Ytamjkmelfpdhiaa
open Go.RowKit Go.Maps
set_option linter.unusedVariables false

theorem Try.info3 : (Try.prog.info? 3).map (fun i => (i.zero, i.size, i.bytes)) = some (some (.int .i64 0), 1, 8) := by kernel_rfl
def ats (l : List Chg) : List Value := l.map fun c => .int .i64 (c.1 : Int)
def atsFill (l : List Chg) (n : Nat) : List Value := ats l ++ List.replicate (n - l.length) (.int .i64 0)
theorem atsFill_set {l : List Chg} {n : Nat} (c : Chg) (h : l.length < n) : (atsFill l n).set l.length (.int .i64 (c.1 : Int)) = atsFill (l ++ [c]) n := by
  have e : n - l.length = (n - (l ++ [c]).length) + 1 := by simp; omega
  unfold atsFill
  rw [e, List.replicate_succ, List.set_append_right _ _ (by simp [ats])]
  simp [ats]
theorem atsFill_full {l : List Chg} {n : Nat} (h : l.length = n) : atsFill l n = ats l := by simp [atsFill, h]

set_option maxRecDepth 100000 in
set_option maxHeartbeats 4000000 in
theorem dpending_any (w : World) (base g bm : Nat) (vd vw : Value) (d : Dk) (hk : d.Ok) (h : DiskAt w base g vd vw bm d) :
    Calls Try.prog 24 #[.pointer (some ⟨g, 0, none⟩)] w fun e w' => ∃ gp, e = .returned (.slice (some ⟨gp, 0, none⟩) d.wait.length d.wait.length) ∧ w'.ownsRow w.heap.size 3 1 (.slice (some ⟨gp, 0, none⟩) d.wait.length d.wait.length) d.wait.length (ats d.wait) ∧ Below w.heap.size w w' := by
  have Hk := Lib.hid hk
  have HD := Lib.hid h
  obtain ⟨A, cw, hvw, hcw, hcm⟩ := own_slice h.wait
  subst hvw
  have c1 := h.c1
  have hpn := hk.wait
  clear h hk
  generalize hn : d.wait.length = n at *
  have Hn := Lib.hid hn
  clear hn
  obtain ⟨i0, hi, hz0, hz1, hz2⟩ := info_parts Try.info3
  have HN : Hid (∀ W, Below w.heap.size w W → W.cell? ⟨g, 1, none⟩ = some (.slice A n cw)) := fun W hW => (HD.out.below hW).c1
  go_enter Try.func24, Try.ntmps24
  go_wp2_with (at_make; refine wpList_make_full _ rfl _ _ 56 rfl w.heap.size 3 i0 (.int .i64 0) 1 Try.underlying56 hi hz0 hz1 .i64 .i64 _ _ n rfl rfl rfl rfl (by rw [hz2]; omega) (by unfold maxLen; omega) (Nat.le_refl _) ?_; intro w1 hown hgrow; have hb1 : Below w.heap.size w w1 := ⟨hgrow.os, hgrow.tape, hgrow.output, hgrow.size, fun k hk => hgrow.block k hk (by simp)⟩; have c1' := HN.out w1 hb1)
  rw [Nat.mul_one, show (Value.int .i64 0).cells = #[.int .i64 0] from rfl, toList_madeCells_one] at hown
  have Hb1 := Lib.hid hb1
  clear c1 c1' hgrow hb1
  go_loopw [17] (fun v W => ∃ k : Nat, k ≤ n ∧ v = .int .i64 k ∧ W.ownsRow w.heap.size 3 1 (.slice (some ⟨w.heap.size, 0, none⟩) n n) n (atsFill (d.wait.take k) n) ∧ Hid (Below w.heap.size w W)) (fun v _ => n - (intOf v).toNat)
  case atStart => exact ⟨0, Nat.zero_le _, rfl, by simpa [atsFill, ats] using hown, Hb1⟩
  case round =>
    obtain ⟨k, hkn, rfl, hown, Hb⟩ := hrel
    by_cases hlt : k < n
    · obtain ⟨c, hc⟩ : ∃ c, d.wait[k]? = some c := ⟨_, List.getElem?_eq_getElem (by rw [Hn.out]; omega)⟩
      have hwk := (HD.out.below Hb.out).wait
      obtain ⟨gw, cw', hvw, _, _, _, hgw⟩ := own_form hwk (by rw [Hn.out]; omega)
      injection hvw with h1 h2 h3
      subst h1 h3
      rw [Hn.out] at hwk
      have hr := chg_range hwk hc
      have hlt' : (k : Int) < (n : Int) := by omega
      have hk0 : (0 : Int) ≤ (k : Int) := by omega
      have Hs := Lib.hid (chg_size c)
      have Hown := Lib.hid hown
      clear hwk h2 hown
      go_wp2_with (first
        | ((with_reducible refine at_load 72 ?_); refine wpList_load_mid rfl 72 _ rfl gw (k * 257) rfl c.cs _ hr Try.underlying72 rfl Hs.out ?_)
        | ((with_reducible refine at_alloc 72 ?_); refine wpList_alloc_rowV rfl 72 rfl noChg.cs Try.zeroCC ?_; intro wA hrA hbA hsA)
        | ((with_reducible refine at_store 72 ?_); refine wpList_store_row rfl 72 _ _ rfl wr.heap.size c.cs.toArray rfl rfl 72 noChg.cs.toArray hrA (chg_size' _) (chg_same _ _) (chg_all _) ?_; have hbB := below_put hbA (Nat.le_refl _) c.cs.toArray; have hrB := hrA.put c.cs; generalize wA.setRow wr.heap.size c.cs.toArray = wB at *; have hcA : wB.cell? ⟨wr.heap.size, 0, none⟩ = some (.int .i64 (c.1 : Int)) := hrB.cell rfl; have hoB := own_below Hown.out hbB; have hfr := hoB.frozenAt k; have hce := hoB.cellAt k (by omega); rw [List.getElem?_eq_getElem (by rw [hoB.1]; omega)] at hce))
      go_roundw
      case rel =>
        refine ⟨k + 1, by omega, rfl, ?_, Lib.hid ((Hb.out.trans (hbB.mono Hb.out.size)).setCell (Nat.le_refl _) _)⟩
        have := (hoB.stored k (.int .i64 (c.1 : Int))).1
        have hl : (d.wait.take k).length = k := by rw [List.length_take, Hn.out]; omega
        have e := atsFill_set (l := d.wait.take k) (n := n) c (by omega)
        rw [hl, ← take_succ' hc] at e
        rw [e] at this
        exact this
      case measure => show n - (k + 1) < n - k; omega
    · obtain rfl : k = n := by omega
      have et : d.wait.take k = d.wait := List.take_of_length_le (by rw [Hn.out]; exact Nat.le_refl _)
      rw [et, atsFill_full Hn.out] at hown
      go_wp2_with fail
      go_ret
      exact ⟨_, rfl, hown, Hb.out⟩
end Go.Proofs.Ytamjkmelfpdhiaa
