/-
  Layer 7: rows of names; the contracts of the reference's First and Parts.
-/
import Derived.Test.YtabigpbnacfajaaPlanD
import Derived.Laws.OwnMore
namespace Go.Proofs.Ytabigpbnacfajaa
open Go.RowKit
set_option linter.unusedVariables false

def nms (l : List Nm) : List Value := l.map fun n => .string n.b
theorem nms_length (l : List Nm) : (nms l).length = l.length := by simp [nms]
theorem nms_append (l m : List Nm) : nms (l ++ m) = nms l ++ nms m := by simp [nms]
theorem nms_get {l : List Nm} {i : Nat} {n : Nm} (h : l[i]? = some n) : (nms l)[i]? = some (.string n.b) := by simp [nms, h]
theorem nms_one (l : List Nm) : ∀ u ∈ nms l, u.oneCell' = true := by
  intro u hu
  obtain ⟨x, _, rfl⟩ := List.mem_map.1 hu
  rfl
theorem Nm.b_inj {m n : Nm} (h : m.b.toList = n.b.toList) : m = n := by
  rw [ByteArray.toList_eq, ByteArray.toList_eq] at h
  cases m <;> cases n <;> first | rfl | (simp [Nm.b] at h)
theorem infoStr : (Try.prog.info? 9).map (fun i => (i.zero, i.size, i.bytes)) = some (some (.string ⟨#[]⟩), 1, 16) := by kernel_rfl

theorem append_name {w1 wr : World} {ops : Array Oper} {rest : List Oper} {o : Oper} {A : Act} {Q : Exit → Act → World → Prop} (nm : Nm) (hgd : o.guard = none) (s x : Operand) (ho : o.op = .call { callee := .builtin .append, args := #[s, x], argTypes := #[31, 31] })
    (base : Nat) (v : Value) (n : Nat) (l : List Nm) (hs : A.eval s = v) (hown : wr.ownsRow base 9 1 v n (nms l)) (hx : A.eval x = .slice (some ⟨wr.heap.size, 0, none⟩) 1 1) (hb : Below base w1 wr) (hbs : base ≤ wr.heap.size) (hn : n ≤ 10000)
    (h : ∀ v' w', w'.ownsRow base 9 1 v' (n + 1) (nms (l ++ [nm])) → Below base w1 w' → wpList Try.prog ops Q rest (A.put o.dst v') w') : wpList Try.prog ops Q (o :: rest) A (wr.alloc (.cells #[.string nm.b] 9)) := by
  obtain ⟨i0, hi0, hz0, hz1, hz2⟩ := info_parts infoStr
  have ho' := hown.alloc (.cells #[Value.string nm.b] 9)
  have hl' := (LiesV.lit wr #[Value.string nm.b] 9 (wr.heap.size + 1) (by omega)).cells rfl
  have hb'' := hb.alloc hbs (.cells #[Value.string nm.b] 9)
  have hs'' : base ≤ (wr.alloc (.cells #[Value.string nm.b] 9)).heap.size := by simp; omega
  refine wpList_append_own _ hgd s x 31 ho base 9 i0 (.string ⟨#[]⟩) 1 16 Try.underlying31 hi0 hz0 hz1 hz2 rfl (by decide) v n _ hs ho' ⟨wr.heap.size, 0, none⟩ 1 1 [.string nm.b] hx rfl hl' (nms_one [nm]) (by unfold maxLen; omega) (by omega) hs'' ?_
  intro v2 w2 hown3 hg3 _
  refine h v2 w2 (by rw [nms_append]; exact hown3) (hb''.grown hg3 hs'' (own_ge ho'))

set_option maxRecDepth 100000 in
set_option maxHeartbeats 400000 in
/-- First, the reference's, where the word is there. -/
theorem first_any (w : World) (B : Nat) (A : Option Addr) (c : Nat) (l : List Nm) (word : Nm) (h : LiesV w B A (nms l)) (hc : l.length ≤ c) (n : Nat) (hn : l[n]? = some word) (hbefore : ∀ j m, j < n → l[j]? = some m → m ≠ word) (hlen : l.length ≤ 10000) :
    Calls Try.prog 13 #[.slice A l.length c, .string word.b] w fun e w' => e = .returned (.int .i64 n) ∧ w' = w := by
  have HN := Lib.hid hn
  have HB := Lib.hid hbefore
  have HO := Lib.hid h
  have hnl : n < l.length := (List.getElem?_eq_some_iff.1 hn).1
  clear hn hbefore h
  generalize hm : l.length = m at *
  have Hm := Lib.hid hm
  clear hm
  go_enter Try.func13, Try.ntmps13
  go_wp2_with fail
  go_loop [5] (fun v => ∃ k : Nat, k ≤ n ∧ v = .int .i64 k) (fun v => n - (intOf v).toNat)
  case atStart => exact ⟨0, Nat.zero_le _, rfl⟩
  case round =>
    obtain ⟨k, hkn, rfl⟩ := hrel
    have hlt' : (k : Int) < (m : Int) := by omega
    have hk0 : (0 : Int) ≤ (k : Int) := by omega
    by_cases hlt : k < n
    · obtain ⟨x, hx⟩ : ∃ x, l[k]? = some x := ⟨_, List.getElem?_eq_getElem (by rw [Hm.out]; omega)⟩
      obtain ⟨b, off, rfl, hb, hcell⟩ := HO.out.at_ (nms_get hx)
      have hne : (x.b.toList == word.b.toList) = false := beq_eq_false_iff_ne.2 (fun e => HB.out k x hlt hx (Nm.b_inj e))
      clear hx
      go_wp2_with fail
      go_round
      case rel => exact ⟨k + 1, by omega, rfl⟩
      case measure => show n - (k + 1) < n - k; omega
    · obtain rfl : k = n := by omega
      obtain ⟨b, off, rfl, hb, hcell⟩ := HO.out.at_ (nms_get HN.out)
      go_wp2_with fail
      go_ret
      exact ⟨rfl, rfl⟩

def heads : List Nm := [.super_, .super_, .state_, .map_, .classes_]
/-- The parts, sector by sector. -/
def partsL (n t c a s : Nat) : List Nm :=
  heads ++ List.replicate n .index_ ++ List.replicate t .text_ ++ List.replicate c .clip_ ++ List.replicate a .audit_ ++ [.head_] ++ List.replicate (n + 9 + t) .body_ ++ List.replicate s .slot_
theorem rep_snoc (L : List Nm) (k : Nat) (x : Nm) : L ++ List.replicate k x ++ [x] = L ++ List.replicate (k + 1) x := by
  rw [List.append_assoc, List.replicate_succ', ]

set_option maxRecDepth 100000 in
set_option maxHeartbeats 4000000 in
theorem parts_any (w : World) (s t c a n : Nat) (hs1 : 1 ≤ s) (hs2 : s ≤ 200) (ht : t ≤ 40) (hc : c ≤ 40) (ha : a ≤ 80) (hn : (2 * (s : Int) + 5) / 6 = (n : Int)) :
    Calls Try.prog 10 #[.agg (pc s t c a).toArray] w fun e w' =>
      ∃ A cap, e = .returned (.slice A (partsL n t c a s).length cap) ∧ (partsL n t c a s).length ≤ cap ∧ cap ≤ maxLen ∧ LiesV w' w'.heap.size A (nms (partsL n t c a s)) ∧ Below w.heap.size w w' := by
  have hn2 : n ≤ 67 := by omega
  have Hn := Lib.hid hn
  clear hn
  go_enter Try.func10, Try.ntmps10
  go_wp2_with ((with_reducible refine at_box 23 ?_); refine wpList_box_rowV rfl 23 _ rfl (pc s t c a) rfl ?_)
  intro w1 hr1 hb1 hz1
  have hB0 := Lib.hid hb1
  clear hb1
  generalize hN : w.heap.size = N at *
  have Hr1 := Lib.hid hr1
  have ho1 := World.ownsRow_lit (base := N + 1) (e := 9) (size := 1) w1 #[.string (Nm.b .super_), .string (Nm.b .super_), .string (Nm.b .state_), .string (Nm.b .map_), .string (Nm.b .classes_)] 5 (by omega) (by decide) rfl
  have hb2 : Below (N + 1) w1 (w1.alloc (.cells #[.string (Nm.b .super_), .string (Nm.b .super_), .string (Nm.b .state_), .string (Nm.b .map_), .string (Nm.b .classes_)] 9)) := (Below.refl _ _).alloc (by omega) _
  have hr2 : RowV (w1.alloc (.cells #[.string (Nm.b .super_), .string (Nm.b .super_), .string (Nm.b .state_), .string (Nm.b .map_), .string (Nm.b .classes_)] 9)) N 23 (pc s t c a) := hr1.alloc _
  go_wp2_with ((with_reducible refine at_load 23 ?_); refine load_plan rfl _ rfl N rfl hr2 ?_)
  have hq := rindex_any (w1.alloc (.cells #[.string (Nm.b .super_), .string (Nm.b .super_), .string (Nm.b .state_), .string (Nm.b .map_), .string (Nm.b .classes_)] 9)) (s : Int) t c a (by omega) (by omega)
  rw [Hn.out] at hq
  refine hq.mono ?_
  rintro e w3 ⟨rfl, hb3⟩
  have HO : Hid (w3.ownsRow (N + 1) 9 1 (.slice (some ⟨w1.heap.size, 0, none⟩) 5 5) 5 (nms heads)) := own_below ho1 hb3
  have HB : Hid (Below (N + 1) w1 w3) := hb2.trans (hb3.mono (by simp; omega))
  clear hq ho1 hb2 hr2 hb3 hr1
  rw [hz1] at HO
  obtain ⟨nb, hnb⟩ : ∃ nb, nb = n + 9 + t := ⟨_, rfl⟩
  have Hnb := Lib.hid hnb
  have hnb1 : (nb : Int) = (n : Int) + 9 + (t : Int) := by omega
  have Hnb1 := Lib.hid hnb1
  have hnb2 : nb ≤ 116 := by omega
  clear hnb hnb1
  obtain ⟨L0, hL0⟩ : ∃ L, L = heads := ⟨_, rfl⟩
  rw [← hL0] at HO
  have HL0 := Lib.hid hL0
  clear hL0
  obtain ⟨m0, hm0⟩ : ∃ m, m = 5 := ⟨_, rfl⟩
  have HO : Hid (w3.ownsRow (N + 1) 9 1 (.slice (some ⟨N + 1, 0, none⟩) 5 5) m0 (nms L0)) := by rw [hm0]; exact HO.out
  have hb0 : m0 ≤ 5 := by omega
  clear hm0
  go_wp2_with fail
  go_loopw [3, 5] (fun v i W => ∃ k : Nat, k ≤ n ∧ i = .int .i64 k ∧ Hid (W.ownsRow (N + 1) 9 1 v (m0 + k) (nms (L0 ++ List.replicate k .index_))) ∧ Hid (Below (N + 1) w1 W)) (fun _ i _ => n - (intOf i).toNat)
  case atStart => exact ⟨0, Nat.zero_le _, rfl, Lib.hid (by rw [List.replicate_zero, List.append_nil]; exact HO.out), HB⟩
  case round =>
    clear HO HB
    obtain ⟨k0, hk, hi, HO, HB⟩ := hrel
    subst hi
    by_cases hlt : k0 < n
    · have hlt' : (k0 : Int) < (n : Int) := by have := Hnb1.out; omega
      have hsz : N + 1 ≤ wr.heap.size := by have := HB.out.size; omega
      have hmk : m0 + k0 ≤ 10000 := by omega
      go_wp2_with (at_builtin; refine append_name .index_ rfl _ _ rfl (N + 1) _ (m0 + k0) _ rfl HO.out rfl HB.out hsz hmk ?_)
      intro v2 w2 hown hbel
      have HO2 : Hid (w2.ownsRow (N + 1) 9 1 v2 (m0 + (k0 + 1)) (nms (L0 ++ List.replicate (k0 + 1) .index_))) := by rw [List.replicate_succ']; exact hown
      have HB2 := Lib.hid hbel
      clear hown hbel HO HB hsz hmk
      go_wp2_with fail
      go_roundw
      case rel => exact ⟨k0 + 1, by omega, by go_num, HO2, HB2⟩
      case measure => simp [intOf]; omega
    have hkc : k0 = n := by omega
    have hlt' : (n : Int) ≤ (k0 : Int) := by have := Hnb1.out; omega
    have hd0 : decide (k0 < n) = false := decide_eq_false hlt
    rw [hkc] at HO
    obtain ⟨L1, hL⟩ : ∃ L, L = L0 ++ List.replicate n .index_ := ⟨_, rfl⟩
    obtain ⟨m1, hm⟩ : ∃ m, m = m0 + n := ⟨_, rfl⟩
    rw [← hL, ← hm] at HO
    have HL1 := Lib.hid hL
    have hb1 : m1 ≤ 72 := by omega
    clear hL hm hkc hk hlt
    obtain ⟨wq1, hwq⟩ : ∃ wq, wq = wr := ⟨_, rfl⟩
    subst hwq
    go_wp2_with fail
    go_loopw [3, 6] (fun v i W => ∃ k : Nat, k ≤ t ∧ i = .int .i64 k ∧ Hid (W.ownsRow (N + 1) 9 1 v (m1 + k) (nms (L1 ++ List.replicate k .text_))) ∧ Hid (Below (N + 1) w1 W)) (fun _ i _ => t - (intOf i).toNat)
    case atStart => exact ⟨0, Nat.zero_le _, rfl, Lib.hid (by rw [List.replicate_zero, List.append_nil]; exact HO.out), HB⟩
    case round =>
      clear HO HB
      obtain ⟨k1, hk, hi, HO, HB⟩ := hrel
      subst hi
      have hcell := (HB.out.cell (p := ⟨N, 1, none⟩) (Nat.lt_succ_self N)).trans (Hr1.out.cell (i := 1) rfl)
      by_cases hlt : k1 < t
      · have hlt' : (k1 : Int) < (t : Int) := by have := Hnb1.out; omega
        have hsz : N + 1 ≤ wr.heap.size := by have := HB.out.size; omega
        have hmk : m1 + k1 ≤ 10000 := by omega
        go_wp2_with (at_builtin; refine append_name .text_ rfl _ _ rfl (N + 1) _ (m1 + k1) _ rfl HO.out rfl HB.out hsz hmk ?_)
        intro v2 w2 hown hbel
        have HO2 : Hid (w2.ownsRow (N + 1) 9 1 v2 (m1 + (k1 + 1)) (nms (L1 ++ List.replicate (k1 + 1) .text_))) := by rw [List.replicate_succ']; exact hown
        have HB2 := Lib.hid hbel
        clear hown hbel HO HB hsz hmk
        go_wp2_with fail
        go_roundw
        case rel => exact ⟨k1 + 1, by omega, by go_num, HO2, HB2⟩
        case measure => simp [intOf]; omega
      have hkc : k1 = t := by omega
      have hlt' : (t : Int) ≤ (k1 : Int) := by have := Hnb1.out; omega
      have hd1 : decide (k1 < t) = false := decide_eq_false hlt
      rw [hkc] at HO
      obtain ⟨L2, hL⟩ : ∃ L, L = L1 ++ List.replicate t .text_ := ⟨_, rfl⟩
      obtain ⟨m2, hm⟩ : ∃ m, m = m1 + t := ⟨_, rfl⟩
      rw [← hL, ← hm] at HO
      have HL2 := Lib.hid hL
      have hb2 : m2 ≤ 112 := by omega
      clear hL hm hkc hk hlt
      obtain ⟨wq2, hwq⟩ : ∃ wq, wq = wr := ⟨_, rfl⟩
      subst hwq
      go_wp2_with fail
      go_loopw [3, 7] (fun v i W => ∃ k : Nat, k ≤ c ∧ i = .int .i64 k ∧ Hid (W.ownsRow (N + 1) 9 1 v (m2 + k) (nms (L2 ++ List.replicate k .clip_))) ∧ Hid (Below (N + 1) w1 W)) (fun _ i _ => c - (intOf i).toNat)
      case atStart => exact ⟨0, Nat.zero_le _, rfl, Lib.hid (by rw [List.replicate_zero, List.append_nil]; exact HO.out), HB⟩
      case round =>
        clear HO HB
        obtain ⟨k2, hk, hi, HO, HB⟩ := hrel
        subst hi
        have hcell := (HB.out.cell (p := ⟨N, 2, none⟩) (Nat.lt_succ_self N)).trans (Hr1.out.cell (i := 2) rfl)
        by_cases hlt : k2 < c
        · have hlt' : (k2 : Int) < (c : Int) := by have := Hnb1.out; omega
          have hsz : N + 1 ≤ wr.heap.size := by have := HB.out.size; omega
          have hmk : m2 + k2 ≤ 10000 := by omega
          go_wp2_with (at_builtin; refine append_name .clip_ rfl _ _ rfl (N + 1) _ (m2 + k2) _ rfl HO.out rfl HB.out hsz hmk ?_)
          intro v2 w2 hown hbel
          have HO2 : Hid (w2.ownsRow (N + 1) 9 1 v2 (m2 + (k2 + 1)) (nms (L2 ++ List.replicate (k2 + 1) .clip_))) := by rw [List.replicate_succ']; exact hown
          have HB2 := Lib.hid hbel
          clear hown hbel HO HB hsz hmk
          go_wp2_with fail
          go_roundw
          case rel => exact ⟨k2 + 1, by omega, by go_num, HO2, HB2⟩
          case measure => simp [intOf]; omega
        have hkc : k2 = c := by omega
        have hlt' : (c : Int) ≤ (k2 : Int) := by have := Hnb1.out; omega
        have hd2 : decide (k2 < c) = false := decide_eq_false hlt
        rw [hkc] at HO
        obtain ⟨L3, hL⟩ : ∃ L, L = L2 ++ List.replicate c .clip_ := ⟨_, rfl⟩
        obtain ⟨m3, hm⟩ : ∃ m, m = m2 + c := ⟨_, rfl⟩
        rw [← hL, ← hm] at HO
        have HL3 := Lib.hid hL
        have hb3 : m3 ≤ 152 := by omega
        clear hL hm hkc hk hlt
        obtain ⟨wq3, hwq⟩ : ∃ wq, wq = wr := ⟨_, rfl⟩
        subst hwq
        go_wp2_with fail
        go_loopw [3, 8] (fun v i W => ∃ k : Nat, k ≤ a ∧ i = .int .i64 k ∧ Hid (W.ownsRow (N + 1) 9 1 v (m3 + k) (nms (L3 ++ List.replicate k .audit_))) ∧ Hid (Below (N + 1) w1 W)) (fun _ i _ => a - (intOf i).toNat)
        case atStart => exact ⟨0, Nat.zero_le _, rfl, Lib.hid (by rw [List.replicate_zero, List.append_nil]; exact HO.out), HB⟩
        case round =>
          clear HO HB
          obtain ⟨k3, hk, hi, HO, HB⟩ := hrel
          subst hi
          have hcell := (HB.out.cell (p := ⟨N, 3, none⟩) (Nat.lt_succ_self N)).trans (Hr1.out.cell (i := 3) rfl)
          by_cases hlt : k3 < a
          · have hlt' : (k3 : Int) < (a : Int) := by have := Hnb1.out; omega
            have hsz : N + 1 ≤ wr.heap.size := by have := HB.out.size; omega
            have hmk : m3 + k3 ≤ 10000 := by omega
            go_wp2_with (at_builtin; refine append_name .audit_ rfl _ _ rfl (N + 1) _ (m3 + k3) _ rfl HO.out rfl HB.out hsz hmk ?_)
            intro v2 w2 hown hbel
            have HO2 : Hid (w2.ownsRow (N + 1) 9 1 v2 (m3 + (k3 + 1)) (nms (L3 ++ List.replicate (k3 + 1) .audit_))) := by rw [List.replicate_succ']; exact hown
            have HB2 := Lib.hid hbel
            clear hown hbel HO HB hsz hmk
            go_wp2_with fail
            go_roundw
            case rel => exact ⟨k3 + 1, by omega, by go_num, HO2, HB2⟩
            case measure => simp [intOf]; omega
          have hkc : k3 = a := by omega
          have hlt' : (a : Int) ≤ (k3 : Int) := by have := Hnb1.out; omega
          have hd3 : decide (k3 < a) = false := decide_eq_false hlt
          rw [hkc] at HO
          obtain ⟨L4, hL⟩ : ∃ L, L = L3 ++ List.replicate a .audit_ := ⟨_, rfl⟩
          obtain ⟨m4, hm⟩ : ∃ m, m = m3 + a := ⟨_, rfl⟩
          rw [← hL, ← hm] at HO
          have HL4 := Lib.hid hL
          have hb4 : m4 ≤ 232 := by omega
          clear hL hm hkc hk hlt
          obtain ⟨wq4, hwq⟩ : ∃ wq, wq = wr := ⟨_, rfl⟩
          subst hwq
          have hsz : N + 1 ≤ wq4.heap.size := by have := HB.out.size; omega
          have hmk : m4 ≤ 10000 := by omega
          go_wp2_with (at_builtin; refine append_name .head_ rfl _ _ rfl (N + 1) _ m4 L4 rfl HO.out rfl HB.out hsz hmk ?_)
          intro v5 w5 hown5 hbel5
          clear HO HB
          obtain ⟨L5, hL⟩ : ∃ L, L = L4 ++ [.head_] := ⟨_, rfl⟩
          obtain ⟨m5, hm⟩ : ∃ m, m = m4 + 1 := ⟨_, rfl⟩
          rw [← hL, ← hm] at hown5
          have HO := Lib.hid hown5
          have HB := Lib.hid hbel5
          have HL5 := Lib.hid hL
          have hb5 : m5 ≤ 233 := by omega
          clear hown5 hbel5 hsz hmk hL hm
          go_wp2_with fail
          go_loopw [3, 9] (fun v i W => ∃ k : Nat, k ≤ nb ∧ i = .int .i64 k ∧ Hid (W.ownsRow (N + 1) 9 1 v (m5 + k) (nms (L5 ++ List.replicate k .body_))) ∧ Hid (Below (N + 1) w1 W)) (fun _ i _ => nb - (intOf i).toNat)
          case atStart => exact ⟨0, Nat.zero_le _, rfl, Lib.hid (by rw [List.replicate_zero, List.append_nil]; exact HO.out), HB⟩
          case round =>
            clear HO HB
            obtain ⟨k5, hk, hi, HO, HB⟩ := hrel
            subst hi
            have hcell := (HB.out.cell (p := ⟨N, 1, none⟩) (Nat.lt_succ_self N)).trans (Hr1.out.cell (i := 1) rfl)
            by_cases hlt : k5 < nb
            · have hlt' : (k5 : Int) < (n : Int) + 9 + (t : Int) := by have := Hnb1.out; omega
              have hsz : N + 1 ≤ wr.heap.size := by have := HB.out.size; omega
              have hmk : m5 + k5 ≤ 10000 := by omega
              go_wp2_with (at_builtin; refine append_name .body_ rfl _ _ rfl (N + 1) _ (m5 + k5) _ rfl HO.out rfl HB.out hsz hmk ?_)
              intro v2 w2 hown hbel
              have HO2 : Hid (w2.ownsRow (N + 1) 9 1 v2 (m5 + (k5 + 1)) (nms (L5 ++ List.replicate (k5 + 1) .body_))) := by rw [List.replicate_succ']; exact hown
              have HB2 := Lib.hid hbel
              clear hown hbel HO HB hsz hmk
              go_wp2_with fail
              go_roundw
              case rel => exact ⟨k5 + 1, by omega, by go_num, HO2, HB2⟩
              case measure => simp [intOf]; omega
            have hkc : k5 = nb := by omega
            have hlt' : (n : Int) + 9 + (t : Int) ≤ (k5 : Int) := by have := Hnb1.out; omega
            have hd5 : decide ((k5 : Int) < (n : Int) + 9 + (t : Int)) = false := decide_eq_false (by have := Hnb1.out; omega)
            rw [hkc] at HO
            obtain ⟨L6, hL⟩ : ∃ L, L = L5 ++ List.replicate nb .body_ := ⟨_, rfl⟩
            obtain ⟨m6, hm⟩ : ∃ m, m = m5 + nb := ⟨_, rfl⟩
            rw [← hL, ← hm] at HO
            have HL6 := Lib.hid hL
            have hb6 : m6 ≤ 349 := by omega
            clear hL hm hkc hk hlt
            obtain ⟨wq6, hwq⟩ : ∃ wq, wq = wr := ⟨_, rfl⟩
            subst hwq
            go_wp2_with fail
            go_loopw [3, 10] (fun v i W => ∃ k : Nat, k ≤ s ∧ i = .int .i64 k ∧ Hid (W.ownsRow (N + 1) 9 1 v (m6 + k) (nms (L6 ++ List.replicate k .slot_))) ∧ Hid (Below (N + 1) w1 W)) (fun _ i _ => s - (intOf i).toNat)
            case atStart => exact ⟨0, Nat.zero_le _, rfl, Lib.hid (by rw [List.replicate_zero, List.append_nil]; exact HO.out), HB⟩
            case round =>
              clear HO HB
              obtain ⟨k6, hk, hi, HO, HB⟩ := hrel
              subst hi
              have hcell := (HB.out.cell (p := ⟨N, 0, none⟩) (Nat.lt_succ_self N)).trans (Hr1.out.cell (i := 0) rfl)
              by_cases hlt : k6 < s
              · have hlt' : (k6 : Int) < (s : Int) := by have := Hnb1.out; omega
                have hsz : N + 1 ≤ wr.heap.size := by have := HB.out.size; omega
                have hmk : m6 + k6 ≤ 10000 := by omega
                go_wp2_with (at_builtin; refine append_name .slot_ rfl _ _ rfl (N + 1) _ (m6 + k6) _ rfl HO.out rfl HB.out hsz hmk ?_)
                intro v2 w2 hown hbel
                have HO2 : Hid (w2.ownsRow (N + 1) 9 1 v2 (m6 + (k6 + 1)) (nms (L6 ++ List.replicate (k6 + 1) .slot_))) := by rw [List.replicate_succ']; exact hown
                have HB2 := Lib.hid hbel
                clear hown hbel HO HB hsz hmk
                go_wp2_with fail
                go_roundw
                case rel => exact ⟨k6 + 1, by omega, by go_num, HO2, HB2⟩
                case measure => simp [intOf]; omega
              have hkc : k6 = s := by omega
              have hlt' : (s : Int) ≤ (k6 : Int) := by have := Hnb1.out; omega
              have hd6 : decide (k6 < s) = false := decide_eq_false hlt
              rw [hkc] at HO
              obtain ⟨L7, hL⟩ : ∃ L, L = L6 ++ List.replicate s .slot_ := ⟨_, rfl⟩
              obtain ⟨m7, hm⟩ : ∃ m, m = m6 + s := ⟨_, rfl⟩
              rw [← hL, ← hm] at HO
              have HL7 := Lib.hid hL
              have hb7 : m7 ≤ 549 := by omega
              clear hL hm hkc hk hlt
              obtain ⟨wq7, hwq⟩ : ∃ wq, wq = wr := ⟨_, rfl⟩
              subst hwq
              go_wp2_with fail
              have e7 : L7 = partsL n t c a s := by rw [HL7.out, HL6.out, HL5.out, HL4.out, HL3.out, HL2.out, HL1.out, HL0.out, Hnb.out]; rfl
              have ho := HO.out
              rw [e7] at ho
              obtain ⟨A, cap, hv, hm, hle, hmx, hl⟩ := LiesV.of_own ho
              rw [nms_length] at hv hm
              subst hv
              go_ret
              exact ⟨A, cap, rfl, by omega, hmx, hl, by rw [hN]; exact hB0.out.trans (HB.out.mono (by omega))⟩
end Go.Proofs.Ytabigpbnacfajaa
