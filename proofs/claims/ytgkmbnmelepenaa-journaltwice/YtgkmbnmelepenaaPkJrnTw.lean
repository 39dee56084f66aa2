/-
  Layer 9: the contracts of the laws' Light and ran.
  Layer 9: the contract of the laws' ran.
  Layer 9: JournalTwice.
-/
import Derived.Test.YtgkmbnmelepenaaPkJrnZ
import Derived.Test.YtgkmbnmelepenaaPkDiskRi
namespace Go.Proofs.Ytgkmbnmelepenaa
open Go.RowKit
set_option linter.unusedVariables false
set_option linter.unusedSimpArgs false

/-- When the power goes, and what is kept: a fuse, and a row of bools at an address. -/
structure CrI where
  fuse : UInt8
  A : Option Addr
  c : Nat
  keep : List Bool
def CrI.cs (o : CrI) : List Value := [.int .u8 (o.fuse.toNat : Int), .slice o.A o.keep.length o.c]
def crs (l : List CrI) : List Value := l.flatMap CrI.cs
theorem CrI.len (o : CrI) : o.cs.length = 2 := rfl
/-- .. as they came in. -/
structure CrsAt (w : World) (B : Nat) (A : Option Addr) (l : List CrI) : Prop where
  lies : LiesV w B A (crs l)
  each : ∀ o ∈ l, LiesV w B o.A (o.keep.map Value.bool) ∧ o.keep.length ≤ o.c
theorem CrsAt.below {w w' : World} {B : Nat} {A : Option Addr} {l : List CrI} (h : CrsAt w B A l) (hb : Below B w w') : CrsAt w' B A l := ⟨h.lies.below hb, fun o ho => ⟨(h.each o ho).1.below hb, (h.each o ho).2⟩⟩
theorem CrsAt.at_ {w : World} {B : Nat} {A : Option Addr} {l : List CrI} (h : CrsAt w B A l) {k : Nat} {o : CrI} (hk : l[k]? = some o) : ∃ b f, A = some ⟨b, f, none⟩ ∧ w.cell? ⟨b, f + k * 2, none⟩ = some (.int .u8 (o.fuse.toNat : Int)) ∧ w.cell? ⟨b, f + k * 2 + 1, none⟩ = some (.slice o.A o.keep.length o.c) ∧ b < B := by
  have g0 : (crs l)[k * 2]? = some (.int .u8 (o.fuse.toNat : Int)) := by
    have := flat_get (f := CrI.cs) (k := 2) (fun _ => rfl) hk 0 (by omega)
    exact this
  have g1 : (crs l)[k * 2 + 1]? = some (.slice o.A o.keep.length o.c) := by
    have := flat_get (f := CrI.cs) (k := 2) (fun _ => rfl) hk 1 (by omega)
    exact this
  obtain ⟨b, f, hA, hb, hc⟩ := h.lies (fun e => by rw [e] at g0; simp at g0)
  exact ⟨b, f, hA, hc _ _ g0, hc _ _ g1, hb⟩
/-- Crashes that are not more than is waited for. -/
def lightB (l : List CrI) : Bool := decide (l.length ≤ 12) && l.all fun o => decide (o.keep.length ≤ 300)
def lightN (l : List CrI) : Int := if lightB l then 0 else 1

set_option maxRecDepth 100000 in
set_option maxHeartbeats 1000000 in
theorem jlight_any (w : World) (B : Nat) (A : Option Addr) (n c : Nat) (l : List CrI) (h : CrsAt w B A l) (hn : n = l.length) :
    Calls Try.prog 17 #[.slice A n c] w fun e w' => e = .returned (.int .i64 (lightN l)) ∧ w' = w := by
  have HL := Lib.hid h
  have Hn := Lib.hid hn
  clear h hn
  go_enter Try.func17, Try.ntmps17
  by_cases hb : 12 < n
  · have hb' : (12 : Int) < (n : Int) := by omega
    have hl : Hid (lightN l = 1) := by
      show _ = _
      rw [lightN, if_neg]
      rw [lightB, decide_eq_false (by rw [← Hn.out]; omega)]
      simp
    go_wp2_with fail
    go_ret
    rw [hl.out]
    exact ⟨rfl, rfl⟩
  have hb' : (n : Int) ≤ 12 := by omega
  have hd1 : decide ((12 : Int) < (n : Int)) = false := decide_eq_false (by omega)
  go_wp2_with fail
  go_loopw [3] (fun v W => ∃ k : Nat, k ≤ n ∧ v = .int .i64 k ∧ Hid ((l.take k).all (fun o => decide (o.keep.length ≤ 300)) = true) ∧ W = w) (fun v _ => n - (intOf v).toNat)
  case atStart => exact ⟨0, Nat.zero_le _, rfl, rfl, rfl⟩
  case round =>
    obtain ⟨k, hk, rfl, HK, rfl⟩ := hrel
    by_cases hlt : k < n
    · have hlt' : (k : Int) < (n : Int) := by omega
      have hk0 : (0 : Int) ≤ (k : Int) := by omega
      obtain ⟨o, ho⟩ : ∃ o, l[k]? = some o := ⟨_, List.getElem?_eq_getElem (by rw [← Hn.out]; exact hlt)⟩
      obtain ⟨b, f, rfl, h0, h1, _⟩ := HL.out.at_ ho
      have Ho := Lib.hid ho
      clear ho h0
      obtain ⟨m, hm⟩ : ∃ m, o.keep.length = m := ⟨_, rfl⟩
      have Hm := Lib.hid hm
      rw [hm] at h1
      clear hm
      by_cases hq : 300 < m
      · have hq' : (300 : Int) < (m : Int) := by omega
        have hl : Hid (lightN l = 1) := by
          show _ = _
          rw [lightN, if_neg]
          rw [lightB, Bool.and_eq_true, List.all_eq_true]
          rintro ⟨_, ha⟩
          have := ha o (List.mem_of_getElem? Ho.out)
          simp [Hm.out] at this
          omega
        go_wp2_with fail
        go_ret
        rw [hl.out]
        exact ⟨rfl, rfl⟩
      · have hq' : (m : Int) ≤ 300 := by omega
        have HK1 : Hid ((l.take (k + 1)).all (fun o => decide (o.keep.length ≤ 300)) = true) := by
          show _ = _
          rw [take_succ' Ho.out, List.all_append, HK.out]
          simp [Hm.out]
          omega
        go_wp2_with fail
        go_roundw
        case rel => exact ⟨k + 1, by omega, by go_num, HK1, by first | rfl | trivial⟩
        case measure => simp [intOf]; omega
    · obtain rfl : k = n := by omega
      have hl : Hid (lightN l = 0) := by
        show _ = _
        have ht := HK.out
        rw [List.take_of_length_le (by rw [← Hn.out]; exact Nat.le_refl _)] at ht
        rw [lightN, if_pos]
        rw [lightB, decide_eq_true (by rw [← Hn.out]; omega), ht]
        rfl
      go_wp2_with fail
      go_ret
      rw [hl.out]
      exact ⟨rfl, rfl⟩
end Go.Proofs.Ytgkmbnmelepenaa
namespace Go.Proofs.Ytgkmbnmelepenaa
open Go.RowKit
set_option linter.unusedVariables false
set_option linter.unusedSimpArgs false

/-- What holds of a disk through crashes and Recovers that crash. -/
structure Stays (P : Dk → Prop) : Prop where
  up : ∀ d, P d → d.down = false
  step : ∀ d f keep, P d → P ((recoverD y0 (d.setFuse f)).1.crash keep).1
  last : ∀ d, P d → (recoverD y0 d).2 = 0 ∧ cleanD y0 (recoverD y0 d).1 = true ∧ (recoverD y0 d).1.wait = [] ∧ (recoverD y0 d).1.down = false
theorem recover_fit {d : Dk} {M : Nat} (h : Fit y0.total d M) (hM : M + 100 < 1000000) : Fit y0.total (recoverD y0 d).1 (M + 28) := by
  have hp := pend_length (y := y0) d
  rw [y0_room] at hp
  have := complete_keeps y0 (pendL y0 d) y0.total d M h (by rw [y0_room]; omega)
  exact this.mono (by rw [y0_room]; omega)
theorem fuse_fit {d : Dk} {M : Nat} {x : Int} (h : Fit y0.total d M) (hx : x ≤ 9223372036854775807) : Fit y0.total (d.setFuse x) M := ⟨setFuse_ok h.ok hx, h.len, h.steps, h.wait⟩
theorem crash_fit {d : Dk} {M : Nat} {keep : List Bool} (h : Fit y0.total d M) : Fit y0.total (d.crash keep).1 M := by
  obtain ⟨h1, h2, h3, h4⟩ := crash_ok (keep := keep) h.ok
  exact ⟨h1, h4.trans h.len, by rw [h2]; exact h.steps, by rw [h3]; exact Nat.zero_le _⟩
theorem bools_in {w0 W : World} {N B : Nat} {A : Option Addr} {c : Nat} {keep : List Bool} {L : List Nat} (hl : LiesV w0 B A (keep.map Value.bool)) (hb : Below N w0 W) (hB : B ≤ N) (hs : N ≤ W.heap.size) (hc : keep.length ≤ c) (h300 : keep.length ≤ 300) (hL : ∀ k ∈ L, N ≤ k) : Bools W L (.slice A keep.length c) keep := by
  refine ⟨A, c, rfl, hc, by omega, (hl.below (hb.mono hB)).le (by omega), fun hne a ha hm => ?_⟩
  obtain ⟨b, o, hA, hlt, _⟩ := hl (fun e => hne (by cases keep with | nil => rfl | cons _ _ => cases e))
  rw [ha] at hA
  injection hA with hA
  subst hA
  have := hL _ hm
  simp only at this
  omega

theorem Kp.trans' {Ks : List Nat} {a b c : World} (h : Kp Ks a b) (k : Kp Ks b c) : Kp Ks a c := by
  obtain ⟨M1, h1, h2⟩ := h
  obtain ⟨M2, k1, k2⟩ := k
  refine ⟨M1 ++ M2, (h1.mono (Nat.le_refl _) (fun k _ hk => List.mem_append.2 (.inl hk))).trans (k1.mono h1.size (fun k _ hk => List.mem_append.2 (.inr hk))), fun k hk hm => ?_⟩
  rcases List.mem_append.1 hm with hm | hm
  · exact h2 k hk hm
  · exact k2 k hk hm
set_option maxRecDepth 100000 in
set_option maxHeartbeats 2000000 in
theorem jran_any {P : Dk → Prop} (hP : Stays P) (w0 W : World) (N g gj : Nat) (Ks : List Nat) (d : Dk) (M B : Nat) (A : Option Addr) (n c : Nat) (l : List CrI) (h : JL w0 N g gj Ks W d) (hd : P d) (hf : Fit y0.total d M) (hM : M + 10000 < 100000) (hc : CrsAt w0 B A l) (hB : B ≤ N) (hn : n = l.length) (hli : lightB l = true) :
    Calls Try.prog 23 #[.pointer (some ⟨g, 0, none⟩), .pointer (some ⟨gj, 0, none⟩), .slice A n c] W fun e W' => e = .returned (.bool true) ∧ ∃ d', P d' ∧ JL w0 N g gj Ks W' (recoverD y0 d').1 ∧ Kp Ks W W' ∧ Fit y0.total (recoverD y0 d').1 (M + 1000) := by
  have HL := Lib.hid hc
  have Hn := Lib.hid hn
  have HP := Lib.hid hP
  have H0 := Lib.hid h
  have Hd := Lib.hid hd
  have Hf := Lib.hid hf
  have Hli : Hid (l.length ≤ 12 ∧ ∀ o ∈ l, o.keep.length ≤ 300) := by
    rw [lightB, Bool.and_eq_true, decide_eq_true_eq, List.all_eq_true] at hli
    exact ⟨hli.1, fun o ho => by simpa using hli.2 o ho⟩
  have hn12 : n ≤ 12 := by rw [hn]; exact Hli.out.1
  clear hc hn hP h hd hf hli
  go_enter Try.func23, Try.ntmps23
  go_wp2_with fail
  go_loopw [7] (fun v W' => ∃ k : Nat, k ≤ n ∧ v = .int .i64 k ∧ Hid (∃ d', P d' ∧ JL w0 N g gj Ks W' d' ∧ Kp Ks W W' ∧ Fit y0.total d' (M + k * 28))) (fun v _ => n - (intOf v).toNat)
  case atStart => exact ⟨0, Nat.zero_le _, rfl, d, Hd.out, H0.out, Kp.of (Below.refl _ _), Hf.out⟩
  case round =>
    obtain ⟨k, hk, rfl, hI⟩ := hrel
    obtain ⟨d', hd', h', hk', hf'⟩ := hI.out
    have HD := Lib.hid hd'
    have HJ := Lib.hid h'
    have HK := Lib.hid hk'
    have HF := Lib.hid hf'
    clear hI hd' h' hk' hf'
    by_cases hlt : k < n
    · have hlt' : (k : Int) < (n : Int) := by omega
      have hk0 : (0 : Int) ≤ (k : Int) := by omega
      obtain ⟨o, ho⟩ : ∃ o, l[k]? = some o := ⟨_, List.getElem?_eq_getElem (by rw [← Hn.out]; exact hlt)⟩
      have hmem := List.mem_of_getElem? ho
      have Hk300 := Lib.hid (Hli.out.2 o hmem)
      obtain ⟨hbl, hcl⟩ := HL.out.each o hmem
      have HBL := Lib.hid hbl
      have Hcl := Lib.hid hcl
      have Hat := Lib.hid (fun (W2 : World) (hb : Below N w0 W2) => (HL.out.below (hb.mono hB)).at_ ho)
      obtain ⟨pb, po, hA, c0, _, _⟩ := Hat.out wr HJ.out.low
      subst hA
      have Hat2 : Hid (∀ W2 : World, Below N w0 W2 → W2.cell? ⟨pb, po + k * 2 + 1, none⟩ = some (.slice o.A o.keep.length o.c)) := by
        intro W2 hb
        obtain ⟨b', o', e, _, h2, _⟩ := Hat.out W2 hb
        injection e with e
        injection e with e1 e2
        subst e1 e2
        exact h2
      clear ho hmem hbl hcl Hat
      obtain ⟨fz, oA, oc, ok⟩ := o
      simp only at c0 Hat2 HBL Hcl Hk300
      obtain ⟨f, hfz⟩ : ∃ f, fz.toNat = f := ⟨_, rfl⟩
      have hf256 : f < 256 := by rw [← hfz]; exact UInt8.toNat_lt _
      rw [hfz] at c0
      clear hfz
      go_wp2_with fail
      refine (jl_fuse HJ.out _).mono ?_
      rintro e w1 ⟨rfl, h1, k1⟩
      have H1 := Lib.hid h1
      have K1 := Lib.hid (HK.out.trans' k1)
      have F1 := Lib.hid (fuse_fit (x := (f : Int) % 40) HF.out (by omega))
      have Hup : Hid ((d'.setFuse ((f : Int) % 40)).down = false) := HP.out.up d' HD.out
      clear h1 k1 c0
      go_wp2_with fail
      refine (jl_recover H1.out Hup.out F1.out (by omega)).mono ?_
      rintro e w2 ⟨rfl, h2, k2⟩
      have H2 := Lib.hid h2
      have K2 := Lib.hid (K1.out.trans' k2)
      have F2 := Lib.hid (recover_fit F1.out (by omega))
      have c1 := Hat2.out w2 h2.low
      clear h2 k2 H1 K1 F1 Hup
      go_wp2_with fail
      clear c1
      refine (jl_crash (keep := ok) H2.out F2.out (fun L _ hL => bools_in HBL.out H2.out.low hB H2.out.size Hcl.out Hk300.out hL)).mono ?_
      rintro e w3 ⟨rfl, h3, k3⟩
      have HI : Hid (∃ d', P d' ∧ JL w0 N g gj Ks w3 d' ∧ Kp Ks W w3 ∧ Fit y0.total d' (M + (k + 1) * 28)) := ⟨_, HP.out.step d' _ ok HD.out, h3, K2.out.trans' k3, (crash_fit F2.out).mono (by omega)⟩
      clear h3 k3 H2 K2 F2
      go_wp2_with fail
      go_roundw
      case rel => exact ⟨k + 1, by omega, by go_num, HI⟩
      case measure => simp [intOf]; omega
    · obtain rfl : k = n := by omega
      have hup := HP.out.up d' HD.out
      obtain ⟨l1, l2, l3, l4⟩ := HP.out.last d' HD.out
      have L1 := Lib.hid l1
      have L2 := Lib.hid l2
      have L3 := Lib.hid l3
      have L4 := Lib.hid l4
      clear l1 l2 l3 l4
      go_wp2_with fail
      refine (jl_recover HJ.out hup HF.out (by omega)).mono ?_
      rintro e w1 ⟨rfl, h1, k1⟩
      rw [L1.out]
      have H1 := Lib.hid h1
      have K1 := Lib.hid (HK.out.trans' k1)
      have F1 := Lib.hid (recover_fit HF.out (by omega))
      clear h1 k1
      go_wp2_with fail
      refine (jl_clean H1.out L4.out F1.out).mono ?_
      rintro e w2 ⟨rfl, hb2⟩
      rw [L2.out]
      have H2 := Lib.hid (H1.out.below hb2)
      have K2 := Lib.hid (K1.out.trans' (Kp.of hb2))
      clear hb2 H1 K1
      go_wp2_with fail
      refine (jl_waits H2.out).mono ?_
      rintro e w2' ⟨rfl, hw⟩
      rw [hw, L3.out]
      clear hw
      go_wp2_with fail
      go_ret
      exact ⟨rfl, d', HD.out, H2.out, K2.out, F1.out.mono (by omega)⟩
end Go.Proofs.Ytgkmbnmelepenaa
namespace Go.Proofs.Ytgkmbnmelepenaa
open Go.RowKit
set_option linter.unusedVariables false
set_option linter.unusedSimpArgs false

/-- .. and behind a Recover that ends its sectors are these. -/
structure Settles (P : Dk → Prop) (Q : List Sec → Prop) : Prop where
  stays : Stays P
  done : ∀ d, P d → ∃ Z, Q Z ∧ Tidy y0 Z ∧ Rest (· = Z) (recoverD y0 d).1
theorem settles_quiet {X : List Sec} (hX : Tidy y0 X) : Settles (Rest (Quiet y0 X)) (· = X) := by
  have hd : ∀ d, Rest (Quiet y0 X) d → Rest (· = X) (recoverD y0 d).1 := fun d h => (quiet_last y0_ok hX h).2
  refine ⟨⟨fun d h => h.up, fun d f keep h => quiet_mid_round y0_ok hX h f keep, fun d h => ⟨(quiet_last y0_ok hX h).1, clean_tidy hX (hd d h), (hd d h).wait, (hd d h).up⟩⟩, fun d h => ⟨X, rfl, hX, hd d h⟩⟩
theorem settles_mid {X : List Sec} {C : List ChI} (hX : Tidy y0 X) (hm : May y0 C) : Settles (Rest (Mid y0 C X)) (fun Z => Z = X ∨ Z = done X C) := by
  have hD := tidy_done y0_ok hX hm
  refine ⟨⟨fun d h => h.up, fun d f keep h => mid_round y0_ok hX hm h f keep, fun d h => ?_⟩, fun d h => ?_⟩
  · obtain ⟨h1, h2 | h2⟩ := mid_last y0_ok hX hm h
    · exact ⟨h1, clean_tidy hX h2, h2.wait, h2.up⟩
    · exact ⟨h1, clean_tidy hD h2, h2.wait, h2.up⟩
  · obtain ⟨_, h2 | h2⟩ := mid_last y0_ok hX hm h
    · exact ⟨X, .inl rfl, hX, h2⟩
    · exact ⟨_, .inr rfl, hD, h2⟩
/-- A Commit of any changes with a fuse, and a crash behind it. -/
theorem commit_any_crash {X : List Sec} {C : List ChI} (hX : Tidy y0 X) {d : Dk} (hd : Rest (· = X) d) (f : Int) (keep : List Bool) : ∃ P Q, Settles P Q ∧ P ((commitV y0 C (d.setFuse f)).1.crash keep).1 := by
  by_cases hck : checkL y0 (C.map (·.1)) = 0
  · have hm : May y0 C := ⟨hck⟩
    rw [commitV_yes hck]
    refine ⟨_, _, settles_mid hX hm, ?_⟩
    rcases commit_crash y0_ok hX hm hd f keep with ⟨_, h⟩ | ⟨_, h⟩
    · exact ⟨h.up, h.fuse, h.wait, .inr (.inr h.dur)⟩
    · exact h
  · rw [commitV_no hck]
    refine ⟨_, _, settles_quiet hX, rest_crash ?_⟩
    have : ((d.setFuse f).crash keep).1.dur = X := by
      show Dk.settle d.dur (Dk.kept keep d.wait) = X
      rw [hd.wait, hd.dur]
      cases keep <;> rfl
    rw [this]
    exact hX.quiet
theorem again {Z : List Sec} (hZ : Tidy y0 Z) {d : Dk} (hd : Rest (· = Z) d) : (recoverD y0 d).2 = 0 ∧ recN y0 d = 0 ∧ Rest (· = Z) (recoverD y0 d).1 := by
  obtain ⟨h1, h2⟩ := quiet_last y0_ok hZ ⟨hd.up, hd.fuse, hd.wait, by rw [hd.dur]; exact hZ.quiet⟩
  refine ⟨h1, ?_, h2⟩
  rw [recN, if_pos h1, pend_tidy hZ hd]
  rfl
theorem commitV_fit {d : Dk} {C : List ChI} {M : Nat} (h : Fit y0.total d M) (hM : M + 1000 < 1000000) : Fit y0.total (commitV y0 C d).1 (M + 100) := by
  by_cases hck : checkL y0 (C.map (·.1)) = 0
  · rw [commitV_yes hck]
    have hl := (check_zero hck).2.1
    rw [List.length_map, y0_room] at hl
    exact (commit_keeps y0 C y0.total d M h (by rw [y0_room]; omega)).mono (by rw [y0_room]; omega)
  · rw [commitV_no hck]
    exact h.mono (by omega)
theorem lightN_cases (l : List CrI) : (lightN l = 0 ∧ lightB l = true) ∨ lightN l = 1 := by
  unfold lightN
  cases lightB l
  · exact .inr rfl
  · exact .inl ⟨rfl, rfl⟩
theorem light_one {o : CrI} (h : lightB [o] = true) : o.keep.length ≤ 300 := by simpa [lightB] using h

set_option maxRecDepth 100000 in
set_option maxHeartbeats 4000000 in
theorem twice_any (w : World) (B : Nat) (A Am : Option Addr) (n c nm cm : Nat) (l : List PutI) (o : CrI) (more : List CrI) (hB : B ≤ w.heap.size) (hl : LiesV w B A (puts l)) (hn : n = l.length) (ho : LiesV w B o.A (o.keep.map Value.bool)) (hoc : o.keep.length ≤ o.c) (hm : CrsAt w B Am more) (hnm : nm = more.length) :
    Calls Try.prog 5 #[.slice A n c, .agg o.cs.toArray, .slice Am nm cm] w fun e w' => e = .returned (.bool true) ∧ Below w.heap.size w w' := by
  have HL := Lib.hid hl
  have Hn := Lib.hid hn
  have Ho := Lib.hid ho
  have HM := Lib.hid hm
  have Hnm := Lib.hid hnm
  clear hl hn ho hm hnm
  go_enter Try.func5, Try.ntmps5
  go_wp2_with ((with_reducible refine at_box 46 ?_); refine wpList_box_rowV rfl 46 _ rfl o.cs rfl ?_)
  intro w1 hr1 hb1 hs1
  have hN1 : w.heap.size < w1.heap.size := by omega
  clear hs1
  generalize hN : w.heap.size = N at *
  by_cases hb : 40 < n
  · have hb' : (40 : Int) < (n : Int) := by omega
    go_wp2_with fail
    refine (jworks_any w1).mono ?_
    rintro e w2 ⟨rfl, hb2⟩
    go_wp2_with fail
    go_ret
    exact ⟨rfl, by first | exact hb1.trans (hb2.mono (by omega)) | (rw [hN]; exact hb1.trans (hb2.mono (by omega)))⟩
  have hb' : (n : Int) ≤ 40 := by omega
  go_wp2_with fail
  refine (jlight_any w1 B Am nm cm more (HM.out.below (hb1.mono hB)) Hnm.out).mono ?_
  rintro e w1' ⟨rfl, hw⟩
  rw [hw]
  clear hw
  rcases lightN_cases more with ⟨hl0, hlb⟩ | hl1
  case inr =>
    rw [hl1]
    go_wp2_with fail
    refine (jworks_any w1).mono ?_
    rintro e w2 ⟨rfl, hb2⟩
    go_wp2_with fail
    go_ret
    exact ⟨rfl, by first | exact hb1.trans (hb2.mono (by omega)) | (rw [hN]; exact hb1.trans (hb2.mono (by omega)))⟩
  rw [hl0]
  have c0 := hr1.cell (i := 0) rfl
  have c1 := hr1.cell (i := 1) rfl
  go_wp2_with fail
  have hba : Below w1.heap.size w1 (w1.alloc (.cells #[.int .u8 (o.fuse.toNat : Int), .slice o.A o.keep.length o.c] 46)) := (Below.refl _ _).alloc (Nat.le_refl _) _
  have hra : RowV (w1.alloc (.cells #[.int .u8 (o.fuse.toNat : Int), .slice o.A o.keep.length o.c] 46)) w1.heap.size 46 (crs [o]) := RowV.new w1 _ _
  clear c0 c1
  generalize w1.alloc (.cells #[.int .u8 (o.fuse.toNat : Int), .slice o.A o.keep.length o.c] 46) = w2 at *
  have hb2 : Below N w w2 := hb1.trans (hba.mono (by omega))
  have hr2 := hr1.below hN1 hba
  have hN2 : N < w2.heap.size := Nat.lt_of_lt_of_le hN1 hba.size
  have hone : CrsAt w2 w2.heap.size (some ⟨w1.heap.size, 0, none⟩) [o] := ⟨LiesV.of_row hra, fun o' ho' => by
    simp only [List.mem_singleton] at ho'
    subst ho'
    exact ⟨(Ho.out.below (hb2.mono hB)).le (by omega), hoc⟩⟩
  refine (jlight_any w2 _ _ 1 1 [o] hone rfl).mono ?_
  rintro e w2' ⟨rfl, hw⟩
  rw [hw]
  clear hw hra hone hba hr1 hb1
  rcases lightN_cases [o] with ⟨ho0, hob⟩ | ho1
  case inr =>
    rw [ho1]
    go_wp2_with fail
    refine (jworks_any w2).mono ?_
    rintro e w3 ⟨rfl, hb3⟩
    go_wp2_with fail
    go_ret
    exact ⟨rfl, by first | exact hb2.trans (hb3.mono (by omega)) | (rw [hN]; exact hb2.trans (hb3.mono (by omega)))⟩
  rw [ho0]
  have h300 := light_one hob
  clear hob ho0 hl0
  go_wp2_with fail
  refine (jl_begin w2).mono ?_
  rintro e w3 ⟨g, gj, rfl, h3, hgj⟩
  have Hlb := Lib.hid hlb
  have H300 := Lib.hid h300
  clear hlb h300
  have HAt : Hid (∀ W, Below w2.heap.size w2 W → W.cell? ⟨N, 0, none⟩ = some (.int .u8 (o.fuse.toNat : Int)) ∧ W.cell? ⟨N, 1, none⟩ = some (.slice o.A o.keep.length o.c)) := fun W hb => ⟨(hr2.below hN2 hb).cell (i := 0) rfl, (hr2.below hN2 hb).cell (i := 1) rfl⟩
  have HB2 := Lib.hid hb2
  clear hr2 hb2
  generalize hM : w3.heap.size = M at *
  go_wp2_with ((with_reducible refine at_alloc 30 ?_); refine wpList_alloc_rowV rfl 30 rfl lc0 Try.zeroL ?_)
  intro w4 hl4 hb4 hs4
  go_wp2_with ((with_reducible refine at_store 30 ?_); refine store_lay rfl _ _ rfl M 3 2 2 2 5 6 8 10 12 13 25 28 6 12 rfl rfl hl4 rfl ?_)
  intro w5 hl5 hg5 hs5
  subst hM
  have H5 := Lib.hid (h3.below (below_grown hb4 hg5 (Nat.le_refl _) (by omega)))
  clear h3 hl4 hb4 hs4 hl5 hg5 hs5
  obtain ⟨c0, _⟩ := HAt.out w5 H5.out.low
  obtain ⟨f, hfz⟩ : ∃ f, o.fuse.toNat = f := ⟨_, rfl⟩
  have hf256 : f < 256 := by rw [← hfz]; exact UInt8.toNat_lt _
  rw [hfz] at c0
  go_wp2_with fail
  clear c0 hfz
  refine (jl_fuse H5.out _).mono ?_
  rintro e w6 ⟨rfl, h6, k6⟩
  have H6 := Lib.hid h6
  have F6 := Lib.hid (fuse_fit (x := (f : Int) % 60) new_fit (by omega))
  clear h6 k6 H5
  go_wp2_with fail
  refine (jlist_any w6 B A n c l (HL.out.below ((HB2.out.mono hB).trans (H6.out.low.mono (by omega)))) Hn.out (by have := H6.out.size; omega) (by omega)).mono ?_
  rintro e w7 ⟨A7, c7, rfl, hc7, hown, hb7⟩
  have hlen : Hid (n = (l.map PutI.chi).length) := by show _ = _; rw [List.length_map, Hn.out]
  generalize l.map PutI.chi = C at *
  have hfresh : ∀ a, A7 = some a → w6.heap.size ≤ a.block ∧ a.block < w7.heap.size := fun a ha => by subst ha; exact hown.lt a.block rfl
  obtain ⟨Ks, HK7, hA7⟩ : ∃ Ks, Hid (JL w2 w2.heap.size g gj Ks w7 ((Dk.new 28).setFuse ((f : Int) % 60))) ∧ (∀ a, A7 = some a → a.block ∈ Ks) := by
    cases A7 with
    | none => exact ⟨[], H6.out.below hb7, fun a ha => by cases ha⟩
    | some a => exact ⟨[a.block], H6.out.add hb7 (hfresh a rfl).1 (hfresh a rfl).2, fun b hb => by injection hb with hb; subst hb; simp⟩
  have HC7 := Lib.hid (LiesV.of_own2 hown)
  clear hown hb7 H6 hfresh HL Hn
  go_wp2_with fail
  refine (jl_commit HK7.out F6.out (by decide) HC7.out (fun _ a ha => hA7 a ha) hlen.out hc7 (by omega)).mono ?_
  rintro e w8 ⟨rfl, h8, k8⟩
  have H8 := Lib.hid h8
  have F8 := Lib.hid (commitV_fit (C := C) F6.out (by decide))
  obtain ⟨P, Q, hPQ, hP0⟩ := commit_any_crash (C := C) tidy0 new_rest ((f : Int) % 60) o.keep
  have HPQ := Lib.hid hPQ
  have HP0 := Lib.hid hP0
  obtain ⟨r8, hr8⟩ : ∃ r, (commitV y0 C ((Dk.new 28).setFuse ((f : Int) % 60))).2 = r := ⟨_, rfl⟩
  rw [hr8]
  clear hr8
  generalize (commitV y0 C ((Dk.new 28).setFuse ((f : Int) % 60))).1 = d8 at *
  obtain ⟨_, c1⟩ := HAt.out w8 H8.out.low
  clear h8 k8 hPQ hP0 HK7 HC7 F6 hA7 hlen
  go_wp2_with fail
  clear c1
  refine (jl_crash (keep := o.keep) H8.out F8.out (fun L _ hL => bools_in (Ho.out.below (HB2.out.mono hB)) H8.out.low (show B ≤ w2.heap.size by omega) H8.out.size hoc H300.out hL)).mono ?_
  rintro e w9 ⟨rfl, h9, k9⟩
  have H9 := Lib.hid h9
  have F9 := Lib.hid (crash_fit (keep := o.keep) F8.out)
  clear h9 k9 H8 F8
  go_wp2_with fail
  refine (jran_any HPQ.out.stays w2 w9 w2.heap.size g gj Ks _ (0 + 100) B Am nm cm more H9.out HP0.out F9.out (by decide) (HM.out.below (HB2.out.mono hB)) (by omega) Hnm.out Hlb.out).mono ?_
  rintro e w10 ⟨rfl, d', hd', h10, k10, f10⟩
  obtain ⟨Z, _, hZ, hR⟩ := HPQ.out.done d' hd'
  have H10 := Lib.hid h10
  have F10 := Lib.hid f10
  have HZ := Lib.hid hZ
  have HR := Lib.hid hR
  clear hd' h10 k10 f10 hZ hR H9 F9 HP0 HPQ
  generalize (recoverD y0 d').1 = dz at *
  go_wp2_with fail
  refine (jl_image H10.out F10.out).mono ?_
  rintro e w11 ⟨v11, rfl, hown, hb11⟩
  rw [HR.out.dur, HZ.out.len, show y0.total = 28 from rfl] at hown
  obtain ⟨gi, ci, rfl, _, _, hgi1, hgi2⟩ := own_form hown (by omega)
  have H11 := Lib.hid (H10.out.add hb11 hgi1 hgi2)
  have HO11 := Lib.hid hown
  clear hown hb11 H10
  obtain ⟨a1, a2, a3⟩ := again HZ.out HR.out
  have A1 := Lib.hid a1
  have A2 := Lib.hid a2
  have A3 := Lib.hid a3
  clear a1 a2 a3
  go_wp2_with fail
  refine (jl_recover H11.out HR.out.up F10.out (by decide)).mono ?_
  rintro e w12 ⟨rfl, h12, k12⟩
  rw [A1.out, A2.out]
  have H12 := Lib.hid h12
  have HO12 : Hid (w12.ownsRow w10.heap.size 23 256 (.slice (some ⟨gi, 0, none⟩) 28 ci) 28 (secs Z)) := by
    obtain ⟨Mx, hbm, hMx⟩ := k12
    exact own_but HO11.out hbm (fun k hk => by
      have e : gi = k := by injection hk
      subst e
      exact ⟨hgi2, hMx _ (by simp)⟩)
  have F12 := Lib.hid (recover_fit F10.out (by decide))
  clear h12 k12 H11 HO11 F10
  go_wp2_with fail
  refine (jl_image H12.out F12.out).mono ?_
  rintro e w13 ⟨v13, rfl, hown, hb13⟩
  rw [A3.out.dur, HZ.out.len, show y0.total = 28 from rfl] at hown
  have hl28 : Z.length = 28 := HZ.out.len
  have HO13 := Lib.hid (own_below HO12.out hb13)
  have HOn := Lib.hid hown
  have H13 := Lib.hid (H12.out.below hb13)
  obtain ⟨_, _, rfl, _, _⟩ := own_slice hown
  clear hown hb13 H12 HO12 F12
  go_wp2_with fail
  refine (rdsame_any w13 _ _ _ _ Z Z (by rw [hl28]; exact HOn.out) (by rw [hl28]; exact HO13.out) (by omega)).mono ?_
  rintro e w14 ⟨rfl, hb14⟩
  rw [decide_eq_true (rfl : Z = Z)]
  have H14 := Lib.hid (H13.out.below hb14)
  clear hb14 H13 HOn HO13
  go_wp2_with fail
  refine (jworks_any w14).mono ?_
  rintro e w15 ⟨rfl, hb15⟩
  have hlow := HB2.out.trans ((H14.out.low.trans (hb15.mono H14.out.size)).mono (by omega))
  go_wp2_with fail
  go_ret
  exact ⟨rfl, by first | exact hlow | (rw [hN]; exact hlow)⟩
end Go.Proofs.Ytgkmbnmelepenaa
