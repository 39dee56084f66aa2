/-
  Layer 10: the contracts of the reference's Set and Of.
-/
import Derived.Test.YticlbefbnfnlmaaPkSlmP
import Derived.Test.YticlbefbnfnlmaaPkSlot
import Derived.Test.YticlbefbnfnlmaaPkBuildS
import Derived.Test.YticlbefbnfnlmaaPkRPut
import Derived.BigQuiet
namespace Go.Proofs.Yticlbefbnfnlmaa
open Go.RowKit
set_option linter.unusedVariables false
set_option linter.unusedSimpArgs false

theorem Try.infoI10 : (Try.prog.info? 3).map (fun i => (i.zero, i.size, i.bytes)) = some (some (.int .i64 0), 1, 8) := by kernel_rfl
/-- States as numbers. -/
def nums (ss : List UInt8) : List Value := ss.map fun x : UInt8 => Value.int .i64 (x.toNat : Int)
theorem nums_length (ss : List UInt8) : (nums ss).length = ss.length := by simp [nums]
theorem nums_one (ss : List UInt8) : ∀ u ∈ nums ss, u.oneCell' = true := by
  intro u hu
  obtain ⟨x, _, rfl⟩ := List.mem_map.1 hu
  rfl
theorem nums_get {ss : List UInt8} {i : Nat} (hi : i < ss.length) : (nums ss)[i]? = some (.int .i64 ((ss.getD i 0).toNat : Int)) := by
  rw [nums, List.getElem?_map, List.getD_eq_getElem?_getD, List.getElem?_eq_getElem hi]
  rfl
theorem nums_set (ss : List UInt8) (i : Nat) (x : UInt8) : nums (ss.set i x) = (nums ss).set i (.int .i64 (x.toNat : Int)) := by simp [nums, List.map_set]
/-- A row of states. -/
def NumsAt (w : World) (v : Value) (ss : List UInt8) : Prop := w.ownsRow 0 3 1 v ss.length (nums ss)
theorem NumsAt.form {w : World} {v : Value} {ss : List UInt8} (h : NumsAt w v ss) (hp : 1 ≤ ss.length) : ∃ g c, v = .slice (some ⟨g, 0, none⟩) ss.length c ∧ ss.length ≤ c ∧ g < w.heap.size := by
  obtain ⟨g, c, hv, h1, _, _, h2⟩ := own_form h hp
  exact ⟨g, c, hv, h1, h2⟩
theorem NumsAt.cell {w : World} {g c : Nat} {ss : List UInt8} (h : NumsAt w (.slice (some ⟨g, 0, none⟩) ss.length c) ss) {i : Nat} (hi : i < ss.length) : w.cell? ⟨g, i, none⟩ = some (.int .i64 ((ss.getD i 0).toNat : Int)) := by
  have h1 := World.ownsRow.cells h (g := g) rfl i _ (nums_get hi)
  rwa [Addr.add_lit, Nat.zero_add] at h1
theorem NumsAt.later {w w' : World} {v : Value} {ss : List UInt8} (h : NumsAt w v ss) (hb : Below w.heap.size w w') : NumsAt w' v ss := own_below h hb
theorem grown_cellR (w : World) (g i : Nat) (v : Value) : w.grownBy (w.setCell ⟨g, i, none⟩ v) (some g) :=
  ⟨rfl, rfl, rfl, by simp [World.setCell], fun k _ hk => Below.heap_setCell _ _ _ _ (fun e => hk (by simp [e]))⟩

set_option maxRecDepth 100000 in
set_option maxHeartbeats 2000000 in
theorem rset10_any (w : World) (v : Value) (ss : List UInt8) (h : NumsAt w v ss) (hp : 1 ≤ ss.length) (hle : ss.length ≤ 200) (i what : Int) :
    Calls Try.prog 9 #[v, .int .i64 i, .int .i64 what] w fun e w' => ∃ v', e = .returned (.tuple #[v', .int .i64 (setC10 ss i what)]) ∧ NumsAt w' v' (setM10 ss i what) ∧ Below w.heap.size w w' := by
  obtain ⟨g, c, rfl, hc, hg⟩ := h.form hp
  have Hh := Lib.hid h
  clear h
  by_cases hh : 0 ≤ i ∧ i < (ss.length : Int)
  · obtain ⟨h1, h2⟩ := hh
    by_cases hw : 0 ≤ what ∧ what ≤ 2
    · have Hc : Hid (setC10 ss i what = 0) := by show _ = _; unfold setC10; rw [if_pos ⟨h1, h2⟩, if_pos hw]
      obtain ⟨k, rfl⟩ : ∃ k : Nat, i = k := ⟨i.toNat, by omega⟩
      have Hm : Hid (setM10 ss k what = ss.set k (UInt8.ofNat what.toNat)) := by show _ = _; unfold setM10; rw [if_pos Hc.out]; rfl
      have Hx : Hid (what = ((UInt8.ofNat what.toNat).toNat : Int)) := by show _ = _; rw [UInt8.toNat_ofNat']; omega
      obtain ⟨h3, h4⟩ := hw
      go_enter Try.func9, Try.ntmps9
      go_wp2_with (at_builtin; refine wpList_append_rows rfl _ _ 28 rfl w.heap.size 3 Try.underlying28 Try.infoI10 rfl (by decide) (.slice none 0 0) 0 [] rfl (World.ownsRow_nil _ _ _ _) _ 0 ss.length (nums ss) rfl Hh.out (nums_one _) (by unfold maxLen; omega) (by omega) (Nat.le_refl _) ?_)
      intro v' w2 hown hg2 _
      have hb2 : Below w.heap.size w w2 := (Below.refl _ _).grown hg2 (Nat.le_refl _) (by simp [Value.ownBlock])
      obtain ⟨g2, c2, rfl, _, _, hw2, _⟩ := own_form hown (by omega)
      have hk : k < ss.length := by omega
      have c1 : w2.cell? ⟨g2, k, none⟩ = some (.int .i64 ((ss.getD k 0).toNat : Int)) := NumsAt.cell (own_rebase (base' := 0) hown (fun _ _ => Nat.zero_le _)) hk
      have f1 := hown.frozenAt k
      have hst := (hown.stored k (.int .i64 what)).1
      clear hg2
      go_wp2_with fail
      go_ret2
      rw [Hc.out, Hm.out]
      refine ⟨_, rfl, ?_, hb2.grown (grown_cellR w2 g2 k (.int .i64 what)) (by have := hb2.size; omega) (fun j e => by injection e with e; omega)⟩
      have he : nums (ss.set k (UInt8.ofNat what.toNat)) = (nums ss).set k (.int .i64 what) := by rw [nums_set, ← Hx.out]
      unfold NumsAt
      rw [List.length_set, he]
      exact own_rebase (base' := 0) hst (fun _ _ => Nat.zero_le _)
    · have Hc : Hid (setC10 ss i what = 1) := by show _ = _; unfold setC10; rw [if_pos ⟨h1, h2⟩, if_neg hw]
      have Hm : Hid (setM10 ss i what = ss) := by show _ = _; unfold setM10; rw [if_neg (by rw [Hc.out]; decide)]
      go_enter Try.func9, Try.ntmps9
      go_wp2_with fail
      all_goals
        go_ret2
        rw [Hc.out, Hm.out]
        exact ⟨_, rfl, Hh.out, Below.refl _ _⟩
  · have Hc : Hid (setC10 ss i what = 2) := by show _ = _; unfold setC10; rw [if_neg hh]
    have Hm : Hid (setM10 ss i what = ss) := by show _ = _; unfold setM10; rw [if_neg (by rw [Hc.out]; decide)]
    go_enter Try.func9, Try.ntmps9
    go_wp2_with fail
    all_goals
      go_ret2
      rw [Hc.out, Hm.out]
      exact ⟨_, rfl, Hh.out, Below.refl _ _⟩

/-- Numbers as cells. -/
def nats (l : List Nat) : List Value := l.map fun i : Nat => Value.int .i64 (i : Int)
theorem nats_length (l : List Nat) : (nats l).length = l.length := by simp [nats]
theorem nats_snoc (l : List Nat) (x : Nat) : nats (l ++ [x]) = nats l ++ [.int .i64 (x : Int)] := by simp [nats]
theorem nats_one (l : List Nat) : ∀ u ∈ nats l, u.oneCell' = true := by
  intro u hu
  obtain ⟨x, _, rfl⟩ := List.mem_map.1 hu
  rfl

set_option maxRecDepth 100000 in
set_option maxHeartbeats 2000000 in
theorem rof10_any (w : World) (v : Value) (ss : List UInt8) (h : NumsAt w v ss) (hp : 1 ≤ ss.length) (hle : ss.length ≤ 200) (what : Int) :
    Calls Try.prog 25 #[v, .int .i64 what] w fun e w' => ∃ v', e = .returned v' ∧ w'.ownsRow w.heap.size 3 1 v' (ofS ss what).length (nats (ofS ss what)) ∧ Below w.heap.size w w' := by
  obtain ⟨g, c, rfl, hc, hg⟩ := h.form hp
  have Hh := Lib.hid h
  clear h
  go_enter Try.func25, Try.ntmps25
  generalize hN : w.heap.size = N at *
  have HO : Hid (w.ownsRow N 3 1 (.slice none 0 0) (ofK ss what 0).length (nats (ofK ss what 0))) := World.ownsRow_nil _ _ _ _
  have HB : Hid (Below N w w) := Below.refl _ _
  have HZ : Hid (N ≤ w.heap.size) := by show _ ≤ _; omega
  go_wp2_with fail
  go_loopw [5, 6] (fun v5 v6 W => ∃ k : Nat, k ≤ ss.length ∧ v6 = .int .i64 k ∧ Hid (W.ownsRow N 3 1 v5 (ofK ss what k).length (nats (ofK ss what k))) ∧ Hid (Below N w W) ∧ Hid (N ≤ W.heap.size)) (fun _ v _ => ss.length - (intOf v).toNat)
  case atStart => exact ⟨0, Nat.zero_le _, rfl, HO, HB, HZ⟩
  case round =>
    obtain ⟨k, hk, rfl, HO, HB, HZ⟩ := hrel
    by_cases hlt : k < ss.length
    · have hlt' : (k : Int) < (ss.length : Int) := by omega
      have cx : wr.cell? ⟨g, k, none⟩ = some (.int .i64 ((ss.getD k 0).toNat : Int)) := (HB.out.cell (p := ⟨g, k, none⟩) hg).trans (Hh.out.cell hlt)
      have Hx := Lib.hid (show isS ss what k = decide (((ss.getD k 0).toNat : Int) = what) from rfl)
      have hok := ofK_length ss what k
      generalize (ss.getD k 0).toNat = x at *
      by_cases hx : (x : Int) = what
      · have Hs : Hid (isS ss what k = true) := by show _ = _; rw [Hx.out, decide_eq_true hx]
        have hx' : ((x : Int) == what) = true := by simp [hx]
        have hz := HZ.out
        have ho1 := HO.out.alloc (.cells #[.int .i64 (k : Int)] 3)
        have rl : RowV (wr.alloc (.cells #[.int .i64 (k : Int)] 3)) wr.heap.size 3 [.int .i64 (k : Int)] := RowV.new wr 3 _
        have hza : N ≤ (wr.alloc (.cells #[.int .i64 (k : Int)] 3)).heap.size := by simp; omega
        go_wp2_with (at_builtin; refine wpList_append_one rfl _ _ 28 rfl N 3 Try.underlying28 Try.infoI10 rfl (by decide) _ _ _ rfl ho1 wr.heap.size [.int .i64 (k : Int)] rfl rl rfl (by simp [Value.oneCell']) (by unfold maxLen; omega) (by omega) hza ?_)
        intro v' w2 ho2 hg2 _
        rw [← nats_snoc, ← ofK_hit Hs.out, show (ofK ss what k).length + 1 = (ofK ss what (k + 1)).length by rw [ofK_hit Hs.out]; simp] at ho2
        have HO2 := Lib.hid ho2
        have HB2 := Lib.hid ((HB.out.alloc hz (.cells #[.int .i64 (k : Int)] 3)).grown hg2 (by omega) (own_ge ho1))
        have HZ2 : Hid (N ≤ w2.heap.size) := by have := hg2.size; show _ ≤ _; omega
        clear ho1 rl hza ho2 hg2 HO HB HZ hx' cx hz
        go_wp2_with fail
        go_roundw
        case rel => exact ⟨k + 1, by omega, by go_num, HO2, HB2, HZ2⟩
        case measure => simp [intOf]; omega
      · have Hs : Hid (isS ss what k = false) := by show _ = _; rw [Hx.out, decide_eq_false hx]
        have hx' : ((x : Int) == what) = false := by simp [hx]
        have HO2 : Hid (wr.ownsRow N 3 1 u5 (ofK ss what (k + 1)).length (nats (ofK ss what (k + 1)))) := by rw [ofK_miss Hs.out]; exact HO.out
        clear HO
        go_wp2_with fail
        go_roundw
        case rel => exact ⟨k + 1, by omega, by go_num, HO2, HB, HZ⟩
        case measure => simp [intOf]; omega
    · obtain rfl : k = ss.length := by omega
      go_wp2_with fail
      go_ret
      exact ⟨_, rfl, HO.out, by first | exact HB.out | (rw [hN]; exact HB.out)⟩
end Go.Proofs.Yticlbefbnfnlmaa
