/-
  Words of 32 bits as the walk holds them: 'nv r', a name that nothing takes apart, and what each operation of Go makes of such words. No program is named here.
  Plain mathematics: SHA-256 on lists of bytes and words of 32 bits, and that it may be reckoned block by block. No program is named here.
  Plain mathematics: the division by the polynomial of CRC-32, bit by bit and byte by byte; it is linear and loses nothing. No program is named here.
  Plain mathematics: bits that are turned round within 32 of each other are told by CRC-32. No program is named here.
  Plain mathematics: the long division, bit by bit in a row of bits, leaves what the register leaves. No program is named here.
-/
import Derived.Test.YtmcnhcbibcjgnaaPkNum
import Derived.Laws.BitsAllLaws
import Derived.IntWalk
namespace Go.Proofs.Ytmcnhcbibcjgnaa

/-- A register as the walk holds it: a name that nothing takes apart. -/
def nv (r : BitVec 32) : Int := (r.toNat : Int)
theorem nv_bd (r : BitVec 32) : 0 ≤ nv r ∧ nv r ≤ 4294967295 := by
  have := r.isLt
  unfold nv
  omega
theorem nv_inj {a b : BitVec 32} (h : nv a = nv b) : a = b := by
  unfold nv at h
  exact BitVec.eq_of_toNat_eq (by omega)

theorem half (r : BitVec 32) : (nv r / (2 : Int)) = nv (r >>> 1) := by
  unfold nv
  rw [BitVec.toNat_ushiftRight, Nat.shiftRight_eq_div_pow]
  omega
theorem xor_nat (a b : BitVec 32) : bits .xor .u32 (nv a) (nv b) = nv (a ^^^ b) := by
  unfold nv
  rw [u32_xor_nat _ _ (by have := a.isLt; omega) (by have := b.isLt; omega), BitVec.toNat_xor]
theorem xor_ones (r : BitVec 32) : r ^^^ ~~~ 0#32 = ~~~ r := by
  apply BitVec.eq_of_getLsbD_eq
  intro i hi
  simp only [BitVec.getLsbD_xor, BitVec.getLsbD_not, BitVec.getLsbD_zero, hi]
  simp
theorem not_nat (a : BitVec 32) : bits .xor .u32 IntKind.u32.max (nv a) = nv (~~~ a) := by
  have e : IntKind.u32.max = nv (~~~ 0#32) := by decide
  rw [e, xor_nat, BitVec.xor_comm, xor_ones]
theorem and_nat (a b : BitVec 32) : bits .and .u32 (nv a) (nv b) = nv (a &&& b) := by
  unfold nv
  rw [u32_and_nat _ _ (by have := a.isLt; omega) (by have := b.isLt; omega), BitVec.toNat_and]
theorem or_nat (a b : BitVec 32) : bits .or .u32 (nv a) (nv b) = nv (a ||| b) := by
  unfold nv
  rw [u32_or_nat _ _ (by have := a.isLt; omega) (by have := b.isLt; omega), BitVec.toNat_or]
theorem add_nat (a b : BitVec 32) : (nv a + nv b) % 4294967296 = nv (a + b) := by
  unfold nv
  rw [BitVec.toNat_add]
  omega
theorem add_wrap (a b : BitVec 32) : IntKind.u32.wrap (nv a + nv b) = nv (a + b) := (show IntKind.u32.wrap (nv a + nv b) = (nv a + nv b) % 4294967296 from rfl).trans (add_nat a b)
theorem shr_nat (a : BitVec 32) (n : Nat) : nv a / 2 ^ n = nv (a >>> n) := by
  unfold nv
  rw [BitVec.toNat_ushiftRight, Nat.shiftRight_eq_div_pow, Int.natCast_ediv, Int.natCast_pow]
  rfl
theorem shl_nat (a : BitVec 32) (n : Nat) : nv a * 2 ^ n % 4294967296 = nv (a <<< n) := by
  unfold nv
  rw [BitVec.toNat_shiftLeft, Nat.shiftLeft_eq, Int.natCast_emod, Int.natCast_mul, Int.natCast_pow]
  rfl
theorem ones_sub (a : BitVec 32) : (4294967295 : Int) - nv a = nv (~~~ a) := by
  have := a.isLt
  unfold nv
  rw [BitVec.toNat_not]
  omega
theorem sub_wrap (a : BitVec 32) : IntKind.u32.wrap ((4294967295 : Int) - nv a) = nv (~~~ a) := by
  rw [ones_sub]
  have := nv_bd (~~~ a)
  exact (show IntKind.u32.wrap (nv (~~~ a)) = (nv (~~~ a)) % 4294967296 from rfl).trans (by omega)
theorem nv_ofNat {n : Nat} (h : n < 4294967296) : nv (BitVec.ofNat 32 n) = (n : Int) := by
  unfold nv
  rw [BitVec.toNat_ofNat, Nat.mod_eq_of_lt (by omega)]
end Go.Proofs.Ytmcnhcbibcjgnaa
namespace Go.Proofs.Ytmcnhcbibcjgnaa

def rot (x : BitVec 32) (n : Nat) : BitVec 32 := x >>> n ||| x <<< (32 - n)
def sg0 (x : BitVec 32) : BitVec 32 := rot x 7 ^^^ rot x 18 ^^^ x >>> 3
def sg1 (x : BitVec 32) : BitVec 32 := rot x 17 ^^^ rot x 19 ^^^ x >>> 10
def bg0 (x : BitVec 32) : BitVec 32 := rot x 2 ^^^ rot x 13 ^^^ rot x 22
def bg1 (x : BitVec 32) : BitVec 32 := rot x 6 ^^^ rot x 11 ^^^ rot x 25
def chz (x y z : BitVec 32) : BitVec 32 := x &&& y ^^^ ~~~ x &&& z
def maj (x y z : BitVec 32) : BitVec 32 := x &&& y ^^^ x &&& z ^^^ y &&& z
/-- The words that come of the first sixteen, k of them. -/
def ext (l : List (BitVec 32)) : Nat → List (BitVec 32)
  | 0 => l
  | k + 1 => ext l k ++ [(ext l k).getD k 0#32 + sg0 ((ext l k).getD (k + 1) 0#32) + (ext l k).getD (k + 9) 0#32 + sg1 ((ext l k).getD (k + 14) 0#32)]
/-- The eight words. -/
structure St where
  a : BitVec 32
  b : BitVec 32
  c : BitVec 32
  d : BitVec 32
  e : BitVec 32
  f : BitVec 32
  g : BitVec 32
  h : BitVec 32
def St.t1 (s : St) (k w : BitVec 32) : BitVec 32 := s.h + bg1 s.e + chz s.e s.f s.g + k + w
def St.t2 (s : St) : BitVec 32 := bg0 s.a + maj s.a s.b s.c
def St.rnd (s : St) (k w : BitVec 32) : St := ⟨s.t1 k w + s.t2, s.a, s.b, s.c, s.d + s.t1 k w, s.e, s.f, s.g⟩
def St.add (s t : St) : St := ⟨s.a + t.a, s.b + t.b, s.c + t.c, s.d + t.d, s.e + t.e, s.f + t.f, s.g + t.g, s.h + t.h⟩
def St.list (s : St) : List (BitVec 32) := [s.a, s.b, s.c, s.d, s.e, s.f, s.g, s.h]
def rnds (s : St) (ks ws : List (BitVec 32)) : Nat → St
  | 0 => s
  | i + 1 => (rnds s ks ws i).rnd (ks.getD i 0#32) (ws.getD i 0#32)
def shaK : List (BitVec 32) := [0x428a2f98#32, 0x71374491#32, 0xb5c0fbcf#32, 0xe9b5dba5#32, 0x3956c25b#32, 0x59f111f1#32, 0x923f82a4#32, 0xab1c5ed5#32, 0xd807aa98#32, 0x12835b01#32, 0x243185be#32, 0x550c7dc3#32, 0x72be5d74#32, 0x80deb1fe#32, 0x9bdc06a7#32, 0xc19bf174#32,
  0xe49b69c1#32, 0xefbe4786#32, 0x0fc19dc6#32, 0x240ca1cc#32, 0x2de92c6f#32, 0x4a7484aa#32, 0x5cb0a9dc#32, 0x76f988da#32, 0x983e5152#32, 0xa831c66d#32, 0xb00327c8#32, 0xbf597fc7#32, 0xc6e00bf3#32, 0xd5a79147#32, 0x06ca6351#32, 0x14292967#32,
  0x27b70a85#32, 0x2e1b2138#32, 0x4d2c6dfc#32, 0x53380d13#32, 0x650a7354#32, 0x766a0abb#32, 0x81c2c92e#32, 0x92722c85#32, 0xa2bfe8a1#32, 0xa81a664b#32, 0xc24b8b70#32, 0xc76c51a3#32, 0xd192e819#32, 0xd6990624#32, 0xf40e3585#32, 0x106aa070#32,
  0x19a4c116#32, 0x1e376c08#32, 0x2748774c#32, 0x34b0bcb5#32, 0x391c0cb3#32, 0x4ed8aa4a#32, 0x5b9cca4f#32, 0x682e6ff3#32, 0x748f82ee#32, 0x78a5636f#32, 0x84c87814#32, 0x8cc70208#32, 0x90befffa#32, 0xa4506ceb#32, 0xbef9a3f7#32, 0xc67178f2#32]
def shaH : St := ⟨1779033703#32, 3144134277#32, 1013904242#32, 2773480762#32, 1359893119#32, 2600822924#32, 528734635#32, 1541459225#32⟩
/-- A word of four bytes, the highest first. -/
def word4 (b : List UInt8) (i : Nat) : BitVec 32 := BitVec.ofNat 32 ((b.getD i 0).toNat * 16777216 + (b.getD (i + 1) 0).toNat * 65536 + (b.getD (i + 2) 0).toNat * 256 + (b.getD (i + 3) 0).toNat)
def words16 (b : List UInt8) : List (BitVec 32) := (List.range 16).map fun i => word4 b (4 * i)
/-- The eight words behind one block. -/
def mixB (s : St) (b : List UInt8) : St := s.add (rnds s shaK (ext (words16 b) 48) 64)
/-- The eight words behind k blocks. -/
def foldK (s : St) (b : List UInt8) : Nat → St
  | 0 => s
  | k + 1 => mixB (foldK s b k) ((b.drop (64 * k)).take 64)
def be8 (n : Nat) : List UInt8 := (putB n 8).reverse
def be4 (w : BitVec 32) : List UInt8 := (putB w.toNat 4).reverse
/-- What comes behind the whole blocks: the rest r of a text of L bytes. -/
def tailB (r : List UInt8) (L : Nat) : List UInt8 := r ++ 128 :: (List.replicate ((119 - r.length % 64) % 64) 0 ++ be8 (8 * L))
def padB64 (m : List UInt8) : List UInt8 := tailB m m.length
def outB (s : St) : List UInt8 := s.list.flatMap be4
/-- The sum of a text. -/
def shaB (m : List UInt8) : List UInt8 := outB (foldK shaH (padB64 m) ((padB64 m).length / 64))

theorem ext_length (l : List (BitVec 32)) (k : Nat) : (ext l k).length = l.length + k := by
  induction k with
  | zero => rfl
  | succ k ih => simp [ext, ih]; omega
theorem words16_length (b : List UInt8) : (words16 b).length = 16 := by simp [words16]
theorem be8_length (n : Nat) : (be8 n).length = 8 := by simp [be8, putB_length]
theorem be4_length (w : BitVec 32) : (be4 w).length = 4 := by simp [be4, putB_length]
theorem outB_length (s : St) : (outB s).length = 32 := by simp [outB, St.list, be4_length]
theorem shaB_length (m : List UInt8) : (shaB m).length = 32 := outB_length _
theorem tailB_length (r : List UInt8) (L : Nat) : (tailB r L).length = r.length + 9 + (119 - r.length % 64) % 64 := by
  simp [tailB, be8_length]
  omega
theorem tailB_mod (r : List UInt8) (L : Nat) : (tailB r L).length % 64 = 0 := by
  rw [tailB_length]
  omega
/-- Whole blocks ahead stand apart. -/
theorem tailB_append {p r : List UInt8} {q : Nat} (hp : p.length = 64 * q) (L : Nat) : tailB (p ++ r) L = p ++ tailB r L := by
  unfold tailB
  rw [List.append_assoc, List.length_append, hp, show (64 * q + r.length) % 64 = r.length % 64 by omega]
theorem foldK_left {s : St} {a b : List UInt8} : ∀ k, 64 * k ≤ a.length → foldK s (a ++ b) k = foldK s a k := by
  intro k
  induction k with
  | zero => intro _; rfl
  | succ k ih =>
    intro h
    unfold foldK
    rw [ih (by omega), List.drop_append_of_le_length (by omega), List.take_append_of_le_length (by rw [List.length_drop]; omega)]
theorem foldK_append {s : St} {a b : List UInt8} {q : Nat} (ha : a.length = 64 * q) : ∀ k, foldK s (a ++ b) (q + k) = foldK (foldK s a q) b k := by
  intro k
  induction k with
  | zero => exact foldK_left q (by omega)
  | succ k ih =>
    rw [← Nat.add_assoc]
    unfold foldK
    rw [ih, show 64 * (q + k) = a.length + 64 * k by omega, List.drop_append, List.drop_eq_nil_of_le (as := a) (by omega), List.nil_append, Nat.add_sub_cancel_left]
/-- The sum, reckoned in two goes: the whole blocks, and what is left with the padding. -/
theorem shaB_parts {p r : List UInt8} {q : Nat} (hp : p.length = 64 * q) :
    shaB (p ++ r) = outB (foldK (foldK shaH p q) (tailB r (p.length + r.length)) ((tailB r (p.length + r.length)).length / 64)) := by
  unfold shaB padB64
  rw [tailB_append hp, List.length_append, List.length_append]
  have e : (p.length + (tailB r (p.length + r.length)).length) / 64 = q + (tailB r (p.length + r.length)).length / 64 := by rw [hp]; omega
  rw [e, foldK_append hp]
/-- One block more. -/
theorem foldK_block {s : St} {a b : List UInt8} {q : Nat} (ha : a.length = 64 * q) (hb : b.length = 64) : foldK s (a ++ b) (q + 1) = mixB (foldK s a q) b := by
  rw [foldK_append ha]
  show mixB (foldK s a q) ((b.drop (64 * 0)).take 64) = _
  rw [Nat.mul_zero, List.drop_zero, List.take_of_length_le (by omega)]
/-- The definition answers what FIPS 180-4 gives for 'abc'. -/
theorem sha_abc : shaB [97, 98, 99] = [0xba, 0x78, 0x16, 0xbf, 0x8f, 0x01, 0xcf, 0xea, 0x41, 0x41, 0x40, 0xde, 0x5d, 0xae, 0x22, 0x23, 0xb0, 0x03, 0x61, 0xa3, 0x96, 0x17, 0x7a, 0x9c, 0xb4, 0x10, 0xff, 0x61, 0xf2, 0x00, 0x15, 0xad] := by decide +kernel
end Go.Proofs.Ytmcnhcbibcjgnaa
namespace Go.Proofs.Ytmcnhcbibcjgnaa

def crcP : BitVec 32 := 0xedb88320#32
/-- One step of the division. -/
def bitStep (r : BitVec 32) : BitVec 32 := (r >>> 1) ^^^ (if r.getLsbD 0 then crcP else 0#32)
def stepN : Nat → BitVec 32 → BitVec 32
  | 0, r => r
  | n + 1, r => stepN n (bitStep r)
def byteStep (r : BitVec 32) (x : UInt8) : BitVec 32 := stepN 8 (r ^^^ BitVec.ofNat 32 x.toNat)
def run (r : BitVec 32) (xs : List UInt8) : BitVec 32 := xs.foldl byteStep r
def crcMore (s : BitVec 32) (xs : List UInt8) : BitVec 32 := ~~~ run (~~~ s) xs
def crcOf (xs : List UInt8) : BitVec 32 := crcMore 0#32 xs
def four (s : BitVec 32) : List UInt8 := putB s.toNat 4
def sealB (xs : List UInt8) : List UInt8 := xs ++ four (crcOf xs)
def holdsB (xs : List UInt8) : Bool := decide (4 ≤ xs.length) && (xs.drop (xs.length - 4) == four (crcOf (xs.take (xs.length - 4))))

theorem four_length (s : BitVec 32) : (four s).length = 4 := putB_length _ _
theorem sealB_length (xs : List UInt8) : (sealB xs).length = xs.length + 4 := by simp [sealB, four_length]
theorem crcMore_more (a b : List UInt8) : crcMore (crcOf a) b = crcOf (a ++ b) := by
  simp [crcMore, crcOf, run, List.foldl_append]
theorem crcMore_nil (s : BitVec 32) : crcMore s [] = s := by simp [crcMore, run]
theorem holdsB_seal (xs : List UInt8) : holdsB (sealB xs) = true := by
  have h : xs.length + 4 - 4 = xs.length := by omega
  unfold holdsB
  rw [sealB_length, h]
  simp [sealB]

/-! ### The step is linear, and nothing is lost -/
theorem bitStep_get (r : BitVec 32) (i : Nat) : (bitStep r).getLsbD i = (r.getLsbD (i + 1) ^^ (r.getLsbD 0 && crcP.getLsbD i)) := by
  unfold bitStep
  rw [BitVec.getLsbD_xor, BitVec.getLsbD_ushiftRight, Nat.add_comm 1 i]
  cases r.getLsbD 0 <;> simp
theorem bitStep_xor (a b : BitVec 32) : bitStep (a ^^^ b) = bitStep a ^^^ bitStep b := by
  apply BitVec.eq_of_getLsbD_eq
  intro i _
  rw [BitVec.getLsbD_xor, bitStep_get, bitStep_get, bitStep_get, BitVec.getLsbD_xor, BitVec.getLsbD_xor]
  cases a.getLsbD 0 <;> cases b.getLsbD 0 <;> cases a.getLsbD (i + 1) <;> cases b.getLsbD (i + 1) <;> cases crcP.getLsbD i <;> rfl
theorem bitStep_zero : bitStep 0#32 = 0#32 := by decide
theorem bitStep_ne {r : BitVec 32} (h : bitStep r = 0#32) : r = 0#32 := by
  have h0 : r.getLsbD 0 = false := by
    have := congrArg (fun v => v.getLsbD 31) h
    simp only [bitStep_get] at this
    rw [BitVec.getLsbD_of_ge r (31 + 1) (by omega)] at this
    have hp : crcP.getLsbD 31 = true := by decide
    rw [hp] at this
    simpa using this
  apply BitVec.eq_of_getLsbD_eq
  intro i hi
  rcases i with _ | i
  · simpa using h0
  · have := congrArg (fun v => v.getLsbD i) h
    simp only [bitStep_get, h0] at this
    simpa using this
theorem stepN_xor (n : Nat) : ∀ a b : BitVec 32, stepN n (a ^^^ b) = stepN n a ^^^ stepN n b := by
  induction n with
  | zero => intro a b; rfl
  | succ n ih => intro a b; rw [stepN, bitStep_xor, ih]; rfl
theorem stepN_zero (n : Nat) : stepN n 0#32 = 0#32 := by
  induction n with
  | zero => rfl
  | succ n ih => rw [stepN, bitStep_zero, ih]
theorem stepN_ne (n : Nat) : ∀ {r : BitVec 32}, stepN n r = 0#32 → r = 0#32 := by
  induction n with
  | zero => intro r h; exact h
  | succ n ih => intro r h; exact bitStep_ne (ih h)
theorem stepN_inj (n : Nat) {a b : BitVec 32} (h : stepN n a = stepN n b) : a = b := by
  have h2 : stepN n (a ^^^ b) = 0#32 := by rw [stepN_xor, h, BitVec.xor_self]
  have h3 := stepN_ne n h2
  have : a ^^^ b ^^^ b = 0#32 ^^^ b := by rw [h3]
  simpa [BitVec.xor_assoc] using this
theorem stepN_add (m n : Nat) (r : BitVec 32) : stepN n (stepN m r) = stepN (m + n) r := by
  induction m generalizing r with
  | zero => simp [stepN]
  | succ m ih => rw [stepN, ih, Nat.succ_add]; rfl

/-! ### Bit by bit -/
def b2v (b : Bool) : BitVec 32 := if b then 1#32 else 0#32
def bitRun (r : BitVec 32) (bs : List Bool) : BitVec 32 := bs.foldl (fun r b => bitStep (r ^^^ b2v b)) r
/-- The k lowest bits of n, the lowest first. -/
def nbits : Nat → Nat → List Bool
  | 0, _ => []
  | k + 1, n => n.testBit 0 :: nbits k (n / 2)
def bitsOf (xs : List UInt8) : List Bool := xs.flatMap fun x => nbits 8 x.toNat

theorem bitRun_append (r : BitVec 32) (a b : List Bool) : bitRun r (a ++ b) = bitRun (bitRun r a) b := by simp [bitRun]
theorem nbits_length (k : Nat) : ∀ n, (nbits k n).length = k := by
  induction k with
  | zero => intro n; rfl
  | succ k ih => intro n; simp [nbits, ih]
theorem nbits_get (k : Nat) : ∀ n i, i < k → (nbits k n).getD i false = n.testBit i := by
  induction k with
  | zero => intro n i h; omega
  | succ k ih =>
    intro n i h
    rcases i with _ | i
    · simp [nbits]
    · have := ih (n / 2) i (by omega)
      simp only [nbits, List.getD_cons_succ, this, Nat.testBit_succ]
theorem bitsOf_length (xs : List UInt8) : (bitsOf xs).length = 8 * xs.length := by
  induction xs with
  | nil => rfl
  | cons x xs ih =>
    have : bitsOf (x :: xs) = nbits 8 x.toNat ++ bitsOf xs := rfl
    rw [this, List.length_append, nbits_length, ih, List.length_cons]
    omega
theorem bitsOf_get (xs : List UInt8) : ∀ j, (bitsOf xs).getD j false = (xs.getD (j / 8) 0).toNat.testBit (j % 8) := by
  induction xs with
  | nil => intro j; simp [bitsOf]
  | cons x xs ih =>
    intro j
    have e : bitsOf (x :: xs) = nbits 8 x.toNat ++ bitsOf xs := rfl
    rw [e]
    by_cases h : j < 8
    · have := nbits_get 8 x.toNat j h
      rw [List.getD_eq_getElem?_getD] at this
      rw [List.getD_eq_getElem?_getD, List.getElem?_append_left (by rw [nbits_length]; exact h), this, Nat.div_eq_of_lt h, Nat.mod_eq_of_lt h]
      rfl
    · rw [List.getD_eq_getElem?_getD, List.getElem?_append_right (by rw [nbits_length]; omega), nbits_length, ← List.getD_eq_getElem?_getD, ih, show j / 8 = (j - 8) / 8 + 1 by omega, show j % 8 = (j - 8) % 8 by omega]
      rfl
theorem b2v_get (b : Bool) (i : Nat) : (b2v b).getLsbD i = (b && decide (i = 0)) := by
  cases b
  · simp [b2v]
  · rcases i with _ | i
    · simp [b2v]
    · simp [b2v, BitVec.getLsbD_one]
theorem step_num {n : Nat} (h : n < 2 ^ 32) : bitStep (BitVec.ofNat 32 n ^^^ b2v (n.testBit 0)) = BitVec.ofNat 32 (n / 2) := by
  apply BitVec.eq_of_getLsbD_eq
  intro i hi
  rw [bitStep_get, BitVec.getLsbD_xor, BitVec.getLsbD_xor, b2v_get, b2v_get, BitVec.getLsbD_ofNat, BitVec.getLsbD_ofNat, BitVec.getLsbD_ofNat]
  have e : n.testBit (i + 1) = (n / 2).testBit i := Nat.testBit_succ ..
  rw [e]
  by_cases h2 : i + 1 < 32
  · simp [h2, hi]
  · have : (n / 2).testBit i = false := by
      rw [← e, show i + 1 = 32 by omega]
      exact Nat.testBit_lt_two_pow h
    simp [this]
theorem bitRun_num (k : Nat) : ∀ (n : Nat) (r : BitVec 32), k ≤ 32 → n < 2 ^ k → bitRun r (nbits k n) = stepN k (r ^^^ BitVec.ofNat 32 n) := by
  induction k with
  | zero =>
    intro n r _ h
    have : n = 0 := by simpa using h
    subst this
    simp [bitRun, nbits, stepN]
  | succ k ih =>
    intro n r hk h
    have h1 : n < 2 ^ 32 := Nat.lt_of_lt_of_le h (Nat.pow_le_pow_right (by omega) hk)
    have h2 : n / 2 < 2 ^ k := by rw [Nat.pow_succ] at h; omega
    have e : bitRun r (nbits (k + 1) n) = bitRun (bitStep (r ^^^ b2v (n.testBit 0))) (nbits k (n / 2)) := rfl
    rw [e, ih _ _ (by omega) h2, ← step_num h1, ← bitStep_xor, stepN]
    congr 2
    have : r ^^^ b2v (n.testBit 0) ^^^ (BitVec.ofNat 32 n ^^^ b2v (n.testBit 0)) = r ^^^ BitVec.ofNat 32 n ^^^ (b2v (n.testBit 0) ^^^ b2v (n.testBit 0)) := by ac_rfl
    rw [this]
    simp
theorem byteStep_bits (r : BitVec 32) (x : UInt8) : byteStep r x = bitRun r (nbits 8 x.toNat) := by
  rw [bitRun_num 8 _ _ (by omega) x.toNat_lt]
  rfl
theorem run_bits (xs : List UInt8) : ∀ r, run r xs = bitRun r (bitsOf xs) := by
  induction xs with
  | nil => intro r; rfl
  | cons x xs ih =>
    intro r
    have e : bitsOf (x :: xs) = nbits 8 x.toNat ++ bitsOf xs := rfl
    rw [e, bitRun_append, ← byteStep_bits, ← ih]
    rfl
theorem run_append (r : BitVec 32) (a b : List UInt8) : run r (a ++ b) = run (run r a) b := by simp [run]

/-! ### Bits of numbers of several bytes -/
theorem nbits_add (a : Nat) : ∀ b n, nbits (a + b) n = nbits a n ++ nbits b (n / 2 ^ a) := by
  induction a with
  | zero => intro b n; simp [nbits]
  | succ a ih =>
    intro b n
    rw [Nat.succ_add, nbits, ih, nbits, Nat.div_div_eq_div_mul, ← Nat.pow_succ']
    rfl
theorem nbits_mod (a : Nat) : ∀ n, nbits a (n % 2 ^ a) = nbits a n := by
  induction a with
  | zero => intro n; rfl
  | succ a ih =>
    intro n
    have h1 : (n % 2 ^ (a + 1)) / 2 = (n / 2) % 2 ^ a := by rw [Nat.pow_succ', Nat.mod_mul_right_div_self]
    have h2 : (n % 2 ^ (a + 1)).testBit 0 = n.testBit 0 := by rw [Nat.testBit_mod_two_pow]; simp
    rw [nbits, h1, ih, h2]
    rfl
theorem bitsOf_num (xs : List UInt8) : bitsOf xs = nbits (8 * xs.length) (leN xs) := by
  induction xs with
  | nil => rfl
  | cons x xs ih =>
    have e : bitsOf (x :: xs) = nbits 8 x.toNat ++ bitsOf xs := rfl
    have hx := x.toNat_lt
    rw [e, List.length_cons, show 8 * (xs.length + 1) = 8 + 8 * xs.length by omega, nbits_add, leN, ih]
    rw [show (x.toNat + 256 * leN xs) / 2 ^ 8 = leN xs by omega, ← nbits_mod 8 (x.toNat + _), show (x.toNat + 256 * leN xs) % 2 ^ 8 = x.toNat by omega]
theorem run_four (r : BitVec 32) (t : List UInt8) (h : t.length = 4) : run r t = stepN 32 (r ^^^ BitVec.ofNat 32 (leN t)) := by
  have hl := leN_lt t
  rw [h] at hl
  rw [run_bits, bitsOf_num, h, bitRun_num 32 _ _ (by omega) (by omega)]
theorem leN_four (s : BitVec 32) : leN (four s) = s.toNat := by
  have := s.isLt
  unfold four
  rw [leN_putB, Nat.mod_eq_of_lt (by omega)]
theorem putB_leN (xs : List UInt8) : putB (leN xs) xs.length = xs := by
  induction xs with
  | nil => rfl
  | cons x xs ih =>
    have hx := x.toNat_lt
    rw [List.length_cons, putB, leN, show (x.toNat + 256 * leN xs) / 256 = leN xs by omega, ih]
    congr 1
    apply UInt8.toNat_inj.1
    rw [toNat_ofNat]
    omega
theorem xor_not (r : BitVec 32) : r ^^^ ~~~ r = ~~~ 0#32 := by
  apply BitVec.eq_of_getLsbD_eq
  intro i hi
  simp only [BitVec.getLsbD_xor, BitVec.getLsbD_not, BitVec.getLsbD_zero, hi]
  simp
/-- Bytes hold just if the division of all of them leaves one certain remainder. -/
theorem holdsB_iff {a t : List UInt8} (h : t.length = 4) : holdsB (a ++ t) = true ↔ run (~~~ 0#32) (a ++ t) = stepN 32 (~~~ 0#32) := by
  have e : (a ++ t).length - 4 = a.length := by rw [List.length_append, h]; omega
  have hl := leN_lt t
  rw [h] at hl
  unfold holdsB
  rw [e, run_append, run_four _ _ h]
  have h4 : decide (4 ≤ (a ++ t).length) = true := by rw [List.length_append, h]; simp
  rw [h4, Bool.true_and, beq_iff_eq, List.drop_left, List.take_left]
  unfold crcOf crcMore
  constructor
  · intro ht
    congr 1
    rw [ht, leN_four, BitVec.ofNat_toNat, BitVec.setWidth_eq, xor_not]
  · intro hs
    have h1 := stepN_inj 32 hs
    have h2 : BitVec.ofNat 32 (leN t) = ~~~ run (~~~ 0#32) a := by
      have : run (~~~ 0#32) a ^^^ (run (~~~ 0#32) a ^^^ BitVec.ofNat 32 (leN t)) = run (~~~ 0#32) a ^^^ ~~~ 0#32 := by rw [h1]
      rw [← BitVec.xor_assoc, BitVec.xor_self, BitVec.zero_xor] at this
      rw [this, xor_ones]
    unfold four
    rw [← h2, BitVec.toNat_ofNat, Nat.mod_eq_of_lt (by omega), ← h, putB_leN]
end Go.Proofs.Ytmcnhcbibcjgnaa
namespace Go.Proofs.Ytmcnhcbibcjgnaa

/-- Bit i of the bytes turned round. -/
def turn1 (s : List UInt8) (i : Nat) : List UInt8 := s.set (i / 8) (s.getD (i / 8) 0 ^^^ UInt8.ofNat (2 ^ (i % 8)))
/-- The bits of M, from place N on, as far as the k lowest of them say so. -/
def turnK (s : List UInt8) (N M : Nat) : Nat → List UInt8
  | 0 => s
  | k + 1 => if M.testBit k then turn1 (turnK s N M k) (N + k) else turnK s N M k

theorem turn1_length (s : List UInt8) (i : Nat) : (turn1 s i).length = s.length := by simp [turn1]
theorem turnK_length (s : List UInt8) (N M k : Nat) : (turnK s N M k).length = s.length := by
  induction k with
  | zero => rfl
  | succ k ih =>
    unfold turnK
    split
    · rw [turn1_length, ih]
    · exact ih
theorem turn1_bits {s : List UInt8} {i : Nat} (h : i < 8 * s.length) (j : Nat) : (bitsOf (turn1 s i)).getD j false = ((bitsOf s).getD j false ^^ decide (j = i)) := by
  rw [bitsOf_get, bitsOf_get]
  unfold turn1
  have hp : (2 : Nat) ^ (i % 8) < 256 := by
    have : (2 : Nat) ^ (i % 8) ≤ 2 ^ 7 := Nat.pow_le_pow_right (by omega) (by omega)
    omega
  by_cases hq : j / 8 = i / 8
  · have e : (s.set (i / 8) (s.getD (i / 8) 0 ^^^ UInt8.ofNat (2 ^ (i % 8)))).getD (j / 8) 0 = s.getD (i / 8) 0 ^^^ UInt8.ofNat (2 ^ (i % 8)) := by
      rw [List.getD_eq_getElem?_getD, hq, List.getElem?_set_self (by omega)]
      rfl
    rw [e, hq, UInt8.toNat_xor, Nat.testBit_xor, toNat_ofNat, Nat.mod_eq_of_lt hp, Nat.testBit_two_pow]
    congr 1
    rw [decide_eq_decide]
    omega
  · have e : (s.set (i / 8) (s.getD (i / 8) 0 ^^^ UInt8.ofNat (2 ^ (i % 8)))).getD (j / 8) 0 = s.getD (j / 8) 0 := by
      rw [List.getD_eq_getElem?_getD, List.getElem?_set_ne (by omega), ← List.getD_eq_getElem?_getD]
    rw [e, decide_eq_false (by rintro rfl; exact hq rfl), Bool.xor_false]
theorem turnK_bits {s : List UInt8} {N M : Nat} (k : Nat) (h : N + k ≤ 8 * s.length) (j : Nat) :
    (bitsOf (turnK s N M k)).getD j false = ((bitsOf s).getD j false ^^ (decide (N ≤ j ∧ j < N + k) && M.testBit (j - N))) := by
  induction k with
  | zero =>
    have : decide (N ≤ j ∧ j < N + 0) = false := decide_eq_false (by omega)
    rw [this]
    simp [turnK]
  | succ k ih =>
    have ih' := ih (by omega)
    unfold turnK
    by_cases hb : M.testBit k = true
    · rw [if_pos hb, turn1_bits (by rw [turnK_length]; omega), ih']
      by_cases hj : j = N + k
      · subst hj
        simp [hb]
      · have e : decide (N ≤ j ∧ j < N + (k + 1)) = decide (N ≤ j ∧ j < N + k) := by rw [decide_eq_decide]; omega
        rw [e, decide_eq_false hj, Bool.xor_false]
    · rw [if_neg hb, ih']
      by_cases hj : j = N + k
      · subst hj
        simp at hb
        simp [hb]
      · have e : decide (N ≤ j ∧ j < N + (k + 1)) = decide (N ≤ j ∧ j < N + k) := by rw [decide_eq_decide]; omega
        rw [e]

theorem getD_of {l : List Bool} {j : Nat} (h : j < l.length) : l.getD j false = l[j] := by
  rw [List.getD_eq_getElem?_getD, List.getElem?_eq_getElem h]
  rfl
theorem b2v_xor (a b : Bool) : b2v (a ^^ b) = b2v a ^^^ b2v b := by cases a <;> cases b <;> decide
theorem bitRun_xor : ∀ (l1 l2 : List Bool) (r1 r2 : BitVec 32), l1.length = l2.length → bitRun (r1 ^^^ r2) (List.zipWith (fun a b => a ^^ b) l1 l2) = bitRun r1 l1 ^^^ bitRun r2 l2
  | [], [], _, _, _ => rfl
  | a :: l1, b :: l2, r1, r2, h => by
    have e1 : bitRun r1 (a :: l1) = bitRun (bitStep (r1 ^^^ b2v a)) l1 := rfl
    have e2 : bitRun r2 (b :: l2) = bitRun (bitStep (r2 ^^^ b2v b)) l2 := rfl
    rw [e1, e2, ← bitRun_xor l1 l2 _ _ (by simpa using h), ← bitStep_xor, List.zipWith_cons_cons]
    have e3 : r1 ^^^ b2v a ^^^ (r2 ^^^ b2v b) = r1 ^^^ r2 ^^^ b2v (a ^^ b) := by rw [b2v_xor]; ac_rfl
    rw [e3]
    rfl
theorem bitRun_zeros (n : Nat) : ∀ r, bitRun r (List.replicate n false) = stepN n r := by
  induction n with
  | zero => intro r; rfl
  | succ n ih =>
    intro r
    have e : bitRun r (List.replicate (n + 1) false) = bitRun (bitStep (r ^^^ b2v false)) (List.replicate n false) := rfl
    rw [e, ih]
    simp [b2v, stepN]
/-- The turned bits, as a row. -/
def errs (N M L : Nat) : List Bool := List.replicate N false ++ (nbits 32 M ++ List.replicate (L - N - 32) false)
theorem errs_length {N M L : Nat} (h : N + 32 ≤ L) : (errs N M L).length = L := by
  simp [errs, nbits_length]
  omega
theorem errs_get {N M L : Nat} (j : Nat) : (errs N M L).getD j false = (decide (N ≤ j ∧ j < N + 32) && M.testBit (j - N)) := by
  unfold errs
  rw [List.getD_eq_getElem?_getD]
  by_cases h1 : j < N
  · rw [List.getElem?_append_left (by simpa using h1), List.getElem?_replicate, if_pos h1, decide_eq_false (by omega)]
    rfl
  · rw [List.getElem?_append_right (by simp; omega), List.length_replicate]
    by_cases h2 : j < N + 32
    · rw [List.getElem?_append_left (by rw [nbits_length]; omega), ← List.getD_eq_getElem?_getD, nbits_get 32 _ _ (by omega), decide_eq_true (by omega), Bool.true_and]
    · rw [List.getElem?_append_right (by rw [nbits_length]; omega), nbits_length, decide_eq_false (by omega), Bool.false_and, List.getElem?_replicate]
      split <;> rfl
theorem errs_run {N M L : Nat} (hM : M < 2 ^ 32) (h : bitRun 0#32 (errs N M L) = 0#32) : M = 0 := by
  unfold errs at h
  rw [bitRun_append, bitRun_zeros, stepN_zero, bitRun_append, bitRun_num 32 M _ (by omega) hM, bitRun_zeros] at h
  have h2 := stepN_ne _ (stepN_ne _ h)
  rw [BitVec.zero_xor] at h2
  have := congrArg BitVec.toNat h2
  rwa [BitVec.toNat_ofNat, Nat.mod_eq_of_lt hM, BitVec.toNat_ofNat, Nat.zero_mod] at this
theorem turnK_row {s : List UInt8} {N M : Nat} (h : N + 32 ≤ 8 * s.length) : bitsOf (turnK s N M 32) = List.zipWith (fun a b => a ^^ b) (bitsOf s) (errs N M (8 * s.length)) := by
  have hl : (errs N M (8 * s.length)).length = 8 * s.length := errs_length h
  apply List.ext_getElem
  · rw [List.length_zipWith, bitsOf_length, bitsOf_length, turnK_length, hl, Nat.min_self]
  · intro j h1 h2
    have hj : j < 8 * s.length := by rw [bitsOf_length, turnK_length] at h1; exact h1
    have e := turnK_bits (s := s) (N := N) (M := M) 32 h j
    rw [← errs_get (L := 8 * s.length), getD_of h1, getD_of (l := bitsOf s) (by rw [bitsOf_length]; exact hj), getD_of (l := errs N M (8 * s.length)) (by rw [hl]; exact hj)] at e
    rw [e, List.getElem_zipWith]
/-- The promise: whatever is turned within 32 bits is told. -/
theorem turned_told {s : List UInt8} {N M : Nat} (hs : holdsB s = true) (h : N + 32 ≤ 8 * s.length) (hM : M < 2 ^ 32) (h0 : M ≠ 0) : holdsB (turnK s N M 32) = false := by
  have h4 : 4 ≤ s.length := by omega
  cases hc : holdsB (turnK s N M 32)
  · rfl
  · exfalso
    have key (t : List UInt8) (ht : 4 ≤ t.length) (hh : holdsB t = true) : run (~~~ 0#32) t = stepN 32 (~~~ 0#32) := by
      have e := List.take_append_drop (t.length - 4) t
      rw [← e] at hh
      have := (holdsB_iff (by rw [List.length_drop]; omega)).1 hh
      rwa [e] at this
    have k1 := key s h4 hs
    have k2 := key _ (by rw [turnK_length]; exact h4) hc
    rw [run_bits, turnK_row h] at k2
    have k3 := bitRun_xor (bitsOf s) (errs N M (8 * s.length)) (~~~ 0#32) 0#32 (by rw [bitsOf_length, errs_length h])
    rw [BitVec.xor_zero, k2, ← run_bits, k1] at k3
    refine h0 (errs_run (N := N) (L := 8 * s.length) hM ?_)
    have : stepN 32 (~~~ 0#32) ^^^ stepN 32 (~~~ 0#32) = stepN 32 (~~~ 0#32) ^^^ (stepN 32 (~~~ 0#32) ^^^ bitRun 0#32 (errs N M (8 * s.length))) := by rw [← k3]
    rw [BitVec.xor_self, ← BitVec.xor_assoc, BitVec.xor_self, BitVec.zero_xor] at this
    exact this.symm
end Go.Proofs.Ytmcnhcbibcjgnaa
namespace Go.Proofs.Ytmcnhcbibcjgnaa

def polyL : List Bool := [true, false, false, false, false, false, true, false, false, true, true, false, false, false, false, false, true, false, false, false, true, true, true, false, true, true, false, true, true, false, true, true, true]
/-- The first k bits inverted, one by one. -/
def inv (l : List Bool) : Nat → List Bool
  | 0 => l
  | k + 1 => (inv l k).set k (!(inv l k).getD k false)
/-- The polynomial's first k coefficients added from place i on, one by one. -/
def xorAt (l : List Bool) (i : Nat) : Nat → List Bool
  | 0 => l
  | k + 1 => (xorAt l i k).set (i + k) ((xorAt l i k).getD (i + k) false ^^ polyL.getD k false)
/-- i steps of the long division. -/
def divI (l : List Bool) : Nat → List Bool
  | 0 => l
  | i + 1 => if (divI l i).getD i false then xorAt (divI l i) i 33 else divI l i
/-- What the inverted bits from place n on say, as far as k of them. -/
def sumK (l : List Bool) (n : Nat) : Nat → Nat
  | 0 => 0
  | k + 1 => sumK l n k + if l.getD (n + k) false then 0 else 2 ^ k

theorem getD_set_eq {l : List Bool} {i : Nat} (h : i < l.length) (b : Bool) : (l.set i b).getD i false = b := by
  rw [List.getD_eq_getElem?_getD, List.getElem?_set_self h]
  rfl
theorem getD_set_ne {l : List Bool} {i j : Nat} (h : i ≠ j) (b : Bool) : (l.set i b).getD j false = l.getD j false := by
  rw [List.getD_eq_getElem?_getD, List.getElem?_set_ne h, ← List.getD_eq_getElem?_getD]
theorem inv_length (l : List Bool) (k : Nat) : (inv l k).length = l.length := by
  induction k with
  | zero => rfl
  | succ k ih => simp [inv, ih]
theorem xorAt_length (l : List Bool) (i k : Nat) : (xorAt l i k).length = l.length := by
  induction k with
  | zero => rfl
  | succ k ih => simp [xorAt, ih]
theorem divI_length (l : List Bool) (i : Nat) : (divI l i).length = l.length := by
  induction i with
  | zero => rfl
  | succ i ih =>
    unfold divI
    split
    · rw [xorAt_length, ih]
    · exact ih
theorem inv_get {l : List Bool} (k : Nat) (h : k ≤ l.length) (j : Nat) : (inv l k).getD j false = (l.getD j false ^^ decide (j < k)) := by
  induction k with
  | zero => simp [inv]
  | succ k ih =>
    have ih' := ih (by omega)
    unfold inv
    by_cases hj : k = j
    · subst hj
      rw [getD_set_eq (by rw [inv_length]; omega), ih', decide_eq_false (by omega), decide_eq_true (by omega)]
      simp
    · rw [getD_set_ne hj, ih']
      congr 1
      rw [decide_eq_decide]
      omega
theorem xorAt_get {l : List Bool} {i : Nat} (k : Nat) (h : i + k ≤ l.length) (j : Nat) : (xorAt l i k).getD j false = (l.getD j false ^^ (decide (i ≤ j ∧ j < i + k) && polyL.getD (j - i) false)) := by
  induction k with
  | zero =>
    rw [decide_eq_false (by omega)]
    simp [xorAt]
  | succ k ih =>
    have ih' := ih (by omega)
    unfold xorAt
    by_cases hj : i + k = j
    · subst hj
      rw [getD_set_eq (by rw [xorAt_length]; omega), ih', decide_eq_false (by omega), decide_eq_true (by omega), Nat.add_sub_cancel_left]
      simp
    · rw [getD_set_ne hj, ih']
      congr 2
      rw [decide_eq_decide]
      omega
theorem poly_get (p : Nat) : polyL.getD (p + 1) false = crcP.getLsbD p := by
  by_cases h : p < 32
  · have : ∀ p : Fin 32, polyL.getD (p.val + 1) false = crcP.getLsbD p.val := by decide
    exact this ⟨p, h⟩
  · rw [BitVec.getLsbD_of_ge _ _ (by omega), List.getD_eq_getElem?_getD, List.getElem?_eq_none (by show 33 ≤ p + 1; omega)]
    rfl
/-- The register behind the first i bits. -/
def reg (bs : List Bool) (i : Nat) : BitVec 32 := bitRun (~~~ 0#32) (bs.take i)
theorem reg_succ {bs : List Bool} {i : Nat} (h : i < bs.length) : reg bs (i + 1) = bitStep (reg bs i ^^^ b2v (bs.getD i false)) := by
  unfold reg
  rw [List.take_succ_eq_append_getElem h, bitRun_append, List.getD_eq_getElem?_getD, List.getElem?_eq_getElem h]
  rfl
theorem ones_get (j : Nat) : (~~~ 0#32 : BitVec 32).getLsbD j = decide (j < 32) := by
  rw [BitVec.getLsbD_not]
  simp
theorem padded_get (bs : List Bool) (j : Nat) : (bs ++ List.replicate 32 false).getD j false = bs.getD j false := by
  rw [List.getD_eq_getElem?_getD, List.getD_eq_getElem?_getD]
  by_cases h : j < bs.length
  · rw [List.getElem?_append_left h]
  · rw [List.getElem?_append_right (by omega), List.getElem?_eq_none (l := bs) (by omega), List.getElem?_replicate]
    split <;> rfl
theorem div_get (bs : List Bool) (i : Nat) (hi : i ≤ bs.length) : ∀ j, i ≤ j → (divI (inv (bs ++ List.replicate 32 false) 32) i).getD j false = ((reg bs i).getLsbD (j - i) ^^ bs.getD j false) := by
  induction i with
  | zero =>
    intro j _
    show (inv (bs ++ List.replicate 32 false) 32).getD j false = _
    have e : reg bs 0 = ~~~ 0#32 := rfl
    rw [inv_get 32 (by simp), padded_get, e, ones_get, Nat.sub_zero, Bool.xor_comm]
  | succ i ih =>
    intro j hj
    have ih' := ih (by omega)
    have e0 := ih' i (Nat.le_refl _)
    have e1 := ih' j (by omega)
    rw [Nat.sub_self] at e0
    obtain ⟨q, rfl⟩ : ∃ q, j = i + (q + 1) := ⟨j - i - 1, by omega⟩
    have s1 : i + (q + 1) - i = q + 1 := by omega
    have s2 : i + (q + 1) - (i + 1) = q := by omega
    rw [s1] at e1
    have hR : (reg bs (i + 1)).getLsbD q = ((reg bs i).getLsbD (q + 1) ^^ (((reg bs i).getLsbD 0 ^^ bs.getD i false) && crcP.getLsbD q)) := by
      rw [reg_succ (by omega), bitStep_get, BitVec.getLsbD_xor, BitVec.getLsbD_xor, b2v_get, b2v_get, decide_eq_false (show ¬ (q + 1 = 0) by omega), Bool.and_false, Bool.xor_false, decide_eq_true (show (0 : Nat) = 0 from rfl), Bool.and_true]
    have hx := xorAt_get (l := divI (inv (bs ++ List.replicate 32 false) 32) i) (i := i) 33 (by rw [divI_length, inv_length]; simp; omega) (i + (q + 1))
    have hp : (decide (i ≤ i + (q + 1) ∧ i + (q + 1) < i + 33) && crcP.getLsbD q) = crcP.getLsbD q := by
      by_cases h33 : q < 32
      · rw [decide_eq_true (by omega), Bool.true_and]
      · rw [BitVec.getLsbD_of_ge crcP q (by omega), Bool.and_false]
    rw [s1, poly_get, hp, e1] at hx
    have hd : (divI (inv (bs ++ List.replicate 32 false) 32) (i + 1)).getD (i + (q + 1)) false = if (divI (inv (bs ++ List.replicate 32 false) 32) i).getD i false then (xorAt (divI (inv (bs ++ List.replicate 32 false) 32) i) i 33).getD (i + (q + 1)) false else (divI (inv (bs ++ List.replicate 32 false) 32) i).getD (i + (q + 1)) false := by
      show (if _ then _ else _ : List Bool).getD _ _ = _
      split <;> rfl
    rw [hd, hx, e1, e0, s2, hR]
    generalize (reg bs i).getLsbD 0 = a0
    generalize (reg bs i).getLsbD (q + 1) = aq
    generalize bs.getD i false = m
    generalize bs.getD (i + (q + 1)) false = mj
    generalize crcP.getLsbD q = pq
    cases a0 <;> cases aq <;> cases m <;> cases mj <;> cases pq <;> rfl
theorem sum_get {l : List Bool} {n : Nat} {R : BitVec 32} (h : ∀ j, j < 32 → l.getD (n + j) false = R.getLsbD j) (k : Nat) (hk : k ≤ 32) : sumK l n k = (~~~ R).toNat % 2 ^ k := by
  induction k with
  | zero => simp [sumK, Nat.mod_one]
  | succ k ih =>
    have e : (~~~ R).toNat.testBit k = !R.getLsbD k := by
      have : (~~~ R).getLsbD k = !R.getLsbD k := by
        rw [BitVec.getLsbD_not]
        simp [show k < 32 by omega]
      exact this
    rw [Nat.testBit_eq_decide_div_mod_eq] at e
    rw [sumK, ih (by omega), h k (by omega), Nat.mod_pow_succ]
    cases hb : R.getLsbD k
    · rw [hb] at e
      have : (~~~ R).toNat / 2 ^ k % 2 = 1 := by simpa using e
      rw [this]
      simp
    · rw [hb] at e
      have : (~~~ R).toNat / 2 ^ k % 2 = 0 := by
        have h1 : ¬ (~~~ R).toNat / 2 ^ k % 2 = 1 := by simpa using e
        omega
      rw [this]
      simp
theorem sumK_lt (l : List Bool) (n k : Nat) : sumK l n k < 2 ^ k := by
  induction k with
  | zero => simp [sumK]
  | succ k ih =>
    unfold sumK
    rw [Nat.pow_succ]
    split <;> omega
/-- The two ways to reckon come to one end. -/
theorem ref_sum (xs : List UInt8) : sumK (divI (inv (bitsOf xs ++ List.replicate 32 false) 32) (8 * xs.length)) (8 * xs.length) 32 = (crcOf xs).toNat := by
  have hl := bitsOf_length xs
  have hr : reg (bitsOf xs) (8 * xs.length) = run (~~~ 0#32) xs := by
    unfold reg
    rw [← hl, List.take_length, run_bits]
  rw [sum_get (R := run (~~~ 0#32) xs) (by
    intro j hj
    rw [div_get (bitsOf xs) (8 * xs.length) (by omega) _ (by omega), hr, Nat.add_sub_cancel_left, List.getD_eq_getElem?_getD, List.getElem?_eq_none (by omega)]
    simp) 32 (Nat.le_refl _)]
  exact Nat.mod_eq_of_lt (~~~ run (~~~ 0#32) xs).isLt
end Go.Proofs.Ytmcnhcbibcjgnaa
