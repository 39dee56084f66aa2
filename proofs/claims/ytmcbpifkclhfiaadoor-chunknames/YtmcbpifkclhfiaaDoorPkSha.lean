/-
  Words of 32 bits as the walk holds them: 'nv r', a name that nothing takes apart, and what each operation of Go makes of such words. No program is named here.
  Plain mathematics: SHA-256 on lists of bytes and words of 32 bits, and that it may be reckoned block by block. No program is named here.
-/
import Derived.Test.YtmcbpifkclhfiaaDoorPkNum
import Derived.Laws.BitsAllLaws
import Derived.IntWalk
namespace Go.Proofs.YtmcbpifkclhfiaaDoor

/-- A register as the walk holds it: a name that nothing takes apart. -/
def nv (r : BitVec 32) : Int := (r.toNat : Int)
theorem nv_bd (r : BitVec 32) : 0 ≤ nv r ∧ nv r ≤ 4294967295 := by
  have := r.isLt
  unfold nv
  omega
theorem nv_inj {a b : BitVec 32} (h : nv a = nv b) : a = b := by
  unfold nv at h
  exact BitVec.eq_of_toNat_eq (by omega)

theorem half (r : BitVec 32) : (nv r / (2 : Int)) = nv (r >>> 1) := by
  unfold nv
  rw [BitVec.toNat_ushiftRight, Nat.shiftRight_eq_div_pow]
  omega
theorem xor_nat (a b : BitVec 32) : bits .xor .u32 (nv a) (nv b) = nv (a ^^^ b) := by
  unfold nv
  rw [u32_xor_nat _ _ (by have := a.isLt; omega) (by have := b.isLt; omega), BitVec.toNat_xor]
theorem xor_ones (r : BitVec 32) : r ^^^ ~~~ 0#32 = ~~~ r := by
  apply BitVec.eq_of_getLsbD_eq
  intro i hi
  simp only [BitVec.getLsbD_xor, BitVec.getLsbD_not, BitVec.getLsbD_zero, hi]
  simp
theorem not_nat (a : BitVec 32) : bits .xor .u32 IntKind.u32.max (nv a) = nv (~~~ a) := by
  have e : IntKind.u32.max = nv (~~~ 0#32) := by decide
  rw [e, xor_nat, BitVec.xor_comm, xor_ones]
theorem and_nat (a b : BitVec 32) : bits .and .u32 (nv a) (nv b) = nv (a &&& b) := by
  unfold nv
  rw [u32_and_nat _ _ (by have := a.isLt; omega) (by have := b.isLt; omega), BitVec.toNat_and]
theorem or_nat (a b : BitVec 32) : bits .or .u32 (nv a) (nv b) = nv (a ||| b) := by
  unfold nv
  rw [u32_or_nat _ _ (by have := a.isLt; omega) (by have := b.isLt; omega), BitVec.toNat_or]
theorem add_nat (a b : BitVec 32) : (nv a + nv b) % 4294967296 = nv (a + b) := by
  unfold nv
  rw [BitVec.toNat_add]
  omega
theorem add_wrap (a b : BitVec 32) : IntKind.u32.wrap (nv a + nv b) = nv (a + b) := (show IntKind.u32.wrap (nv a + nv b) = (nv a + nv b) % 4294967296 from rfl).trans (add_nat a b)
theorem shr_nat (a : BitVec 32) (n : Nat) : nv a / 2 ^ n = nv (a >>> n) := by
  unfold nv
  rw [BitVec.toNat_ushiftRight, Nat.shiftRight_eq_div_pow, Int.natCast_ediv, Int.natCast_pow]
  rfl
theorem shl_nat (a : BitVec 32) (n : Nat) : nv a * 2 ^ n % 4294967296 = nv (a <<< n) := by
  unfold nv
  rw [BitVec.toNat_shiftLeft, Nat.shiftLeft_eq, Int.natCast_emod, Int.natCast_mul, Int.natCast_pow]
  rfl
theorem ones_sub (a : BitVec 32) : (4294967295 : Int) - nv a = nv (~~~ a) := by
  have := a.isLt
  unfold nv
  rw [BitVec.toNat_not]
  omega
theorem sub_wrap (a : BitVec 32) : IntKind.u32.wrap ((4294967295 : Int) - nv a) = nv (~~~ a) := by
  rw [ones_sub]
  have := nv_bd (~~~ a)
  exact (show IntKind.u32.wrap (nv (~~~ a)) = (nv (~~~ a)) % 4294967296 from rfl).trans (by omega)
theorem nv_ofNat {n : Nat} (h : n < 4294967296) : nv (BitVec.ofNat 32 n) = (n : Int) := by
  unfold nv
  rw [BitVec.toNat_ofNat, Nat.mod_eq_of_lt (by omega)]
end Go.Proofs.YtmcbpifkclhfiaaDoor
namespace Go.Proofs.YtmcbpifkclhfiaaDoor

def rot (x : BitVec 32) (n : Nat) : BitVec 32 := x >>> n ||| x <<< (32 - n)
def sg0 (x : BitVec 32) : BitVec 32 := rot x 7 ^^^ rot x 18 ^^^ x >>> 3
def sg1 (x : BitVec 32) : BitVec 32 := rot x 17 ^^^ rot x 19 ^^^ x >>> 10
def bg0 (x : BitVec 32) : BitVec 32 := rot x 2 ^^^ rot x 13 ^^^ rot x 22
def bg1 (x : BitVec 32) : BitVec 32 := rot x 6 ^^^ rot x 11 ^^^ rot x 25
def chz (x y z : BitVec 32) : BitVec 32 := x &&& y ^^^ ~~~ x &&& z
def maj (x y z : BitVec 32) : BitVec 32 := x &&& y ^^^ x &&& z ^^^ y &&& z
/-- The words that come of the first sixteen, k of them. -/
def ext (l : List (BitVec 32)) : Nat → List (BitVec 32)
  | 0 => l
  | k + 1 => ext l k ++ [(ext l k).getD k 0#32 + sg0 ((ext l k).getD (k + 1) 0#32) + (ext l k).getD (k + 9) 0#32 + sg1 ((ext l k).getD (k + 14) 0#32)]
/-- The eight words. -/
structure St where
  a : BitVec 32
  b : BitVec 32
  c : BitVec 32
  d : BitVec 32
  e : BitVec 32
  f : BitVec 32
  g : BitVec 32
  h : BitVec 32
def St.t1 (s : St) (k w : BitVec 32) : BitVec 32 := s.h + bg1 s.e + chz s.e s.f s.g + k + w
def St.t2 (s : St) : BitVec 32 := bg0 s.a + maj s.a s.b s.c
def St.rnd (s : St) (k w : BitVec 32) : St := ⟨s.t1 k w + s.t2, s.a, s.b, s.c, s.d + s.t1 k w, s.e, s.f, s.g⟩
def St.add (s t : St) : St := ⟨s.a + t.a, s.b + t.b, s.c + t.c, s.d + t.d, s.e + t.e, s.f + t.f, s.g + t.g, s.h + t.h⟩
def St.list (s : St) : List (BitVec 32) := [s.a, s.b, s.c, s.d, s.e, s.f, s.g, s.h]
def rnds (s : St) (ks ws : List (BitVec 32)) : Nat → St
  | 0 => s
  | i + 1 => (rnds s ks ws i).rnd (ks.getD i 0#32) (ws.getD i 0#32)
def shaK : List (BitVec 32) := [0x428a2f98#32, 0x71374491#32, 0xb5c0fbcf#32, 0xe9b5dba5#32, 0x3956c25b#32, 0x59f111f1#32, 0x923f82a4#32, 0xab1c5ed5#32, 0xd807aa98#32, 0x12835b01#32, 0x243185be#32, 0x550c7dc3#32, 0x72be5d74#32, 0x80deb1fe#32, 0x9bdc06a7#32, 0xc19bf174#32,
  0xe49b69c1#32, 0xefbe4786#32, 0x0fc19dc6#32, 0x240ca1cc#32, 0x2de92c6f#32, 0x4a7484aa#32, 0x5cb0a9dc#32, 0x76f988da#32, 0x983e5152#32, 0xa831c66d#32, 0xb00327c8#32, 0xbf597fc7#32, 0xc6e00bf3#32, 0xd5a79147#32, 0x06ca6351#32, 0x14292967#32,
  0x27b70a85#32, 0x2e1b2138#32, 0x4d2c6dfc#32, 0x53380d13#32, 0x650a7354#32, 0x766a0abb#32, 0x81c2c92e#32, 0x92722c85#32, 0xa2bfe8a1#32, 0xa81a664b#32, 0xc24b8b70#32, 0xc76c51a3#32, 0xd192e819#32, 0xd6990624#32, 0xf40e3585#32, 0x106aa070#32,
  0x19a4c116#32, 0x1e376c08#32, 0x2748774c#32, 0x34b0bcb5#32, 0x391c0cb3#32, 0x4ed8aa4a#32, 0x5b9cca4f#32, 0x682e6ff3#32, 0x748f82ee#32, 0x78a5636f#32, 0x84c87814#32, 0x8cc70208#32, 0x90befffa#32, 0xa4506ceb#32, 0xbef9a3f7#32, 0xc67178f2#32]
def shaH : St := ⟨1779033703#32, 3144134277#32, 1013904242#32, 2773480762#32, 1359893119#32, 2600822924#32, 528734635#32, 1541459225#32⟩
/-- A word of four bytes, the highest first. -/
def word4 (b : List UInt8) (i : Nat) : BitVec 32 := BitVec.ofNat 32 ((b.getD i 0).toNat * 16777216 + (b.getD (i + 1) 0).toNat * 65536 + (b.getD (i + 2) 0).toNat * 256 + (b.getD (i + 3) 0).toNat)
def words16 (b : List UInt8) : List (BitVec 32) := (List.range 16).map fun i => word4 b (4 * i)
/-- The eight words behind one block. -/
def mixB (s : St) (b : List UInt8) : St := s.add (rnds s shaK (ext (words16 b) 48) 64)
/-- The eight words behind k blocks. -/
def foldK (s : St) (b : List UInt8) : Nat → St
  | 0 => s
  | k + 1 => mixB (foldK s b k) ((b.drop (64 * k)).take 64)
def be8 (n : Nat) : List UInt8 := (putB n 8).reverse
def be4 (w : BitVec 32) : List UInt8 := (putB w.toNat 4).reverse
/-- What comes behind the whole blocks: the rest r of a text of L bytes. -/
def tailB (r : List UInt8) (L : Nat) : List UInt8 := r ++ 128 :: (List.replicate ((119 - r.length % 64) % 64) 0 ++ be8 (8 * L))
def padB64 (m : List UInt8) : List UInt8 := tailB m m.length
def outB (s : St) : List UInt8 := s.list.flatMap be4
/-- The sum of a text. -/
def shaB (m : List UInt8) : List UInt8 := outB (foldK shaH (padB64 m) ((padB64 m).length / 64))

theorem ext_length (l : List (BitVec 32)) (k : Nat) : (ext l k).length = l.length + k := by
  induction k with
  | zero => rfl
  | succ k ih => simp [ext, ih]; omega
theorem words16_length (b : List UInt8) : (words16 b).length = 16 := by simp [words16]
theorem be8_length (n : Nat) : (be8 n).length = 8 := by simp [be8, putB_length]
theorem be4_length (w : BitVec 32) : (be4 w).length = 4 := by simp [be4, putB_length]
theorem outB_length (s : St) : (outB s).length = 32 := by simp [outB, St.list, be4_length]
theorem shaB_length (m : List UInt8) : (shaB m).length = 32 := outB_length _
theorem tailB_length (r : List UInt8) (L : Nat) : (tailB r L).length = r.length + 9 + (119 - r.length % 64) % 64 := by
  simp [tailB, be8_length]
  omega
theorem tailB_mod (r : List UInt8) (L : Nat) : (tailB r L).length % 64 = 0 := by
  rw [tailB_length]
  omega
/-- Whole blocks ahead stand apart. -/
theorem tailB_append {p r : List UInt8} {q : Nat} (hp : p.length = 64 * q) (L : Nat) : tailB (p ++ r) L = p ++ tailB r L := by
  unfold tailB
  rw [List.append_assoc, List.length_append, hp, show (64 * q + r.length) % 64 = r.length % 64 by omega]
theorem foldK_left {s : St} {a b : List UInt8} : ∀ k, 64 * k ≤ a.length → foldK s (a ++ b) k = foldK s a k := by
  intro k
  induction k with
  | zero => intro _; rfl
  | succ k ih =>
    intro h
    unfold foldK
    rw [ih (by omega), List.drop_append_of_le_length (by omega), List.take_append_of_le_length (by rw [List.length_drop]; omega)]
theorem foldK_append {s : St} {a b : List UInt8} {q : Nat} (ha : a.length = 64 * q) : ∀ k, foldK s (a ++ b) (q + k) = foldK (foldK s a q) b k := by
  intro k
  induction k with
  | zero => exact foldK_left q (by omega)
  | succ k ih =>
    rw [← Nat.add_assoc]
    unfold foldK
    rw [ih, show 64 * (q + k) = a.length + 64 * k by omega, List.drop_append, List.drop_eq_nil_of_le (as := a) (by omega), List.nil_append, Nat.add_sub_cancel_left]
/-- The sum, reckoned in two goes: the whole blocks, and what is left with the padding. -/
theorem shaB_parts {p r : List UInt8} {q : Nat} (hp : p.length = 64 * q) :
    shaB (p ++ r) = outB (foldK (foldK shaH p q) (tailB r (p.length + r.length)) ((tailB r (p.length + r.length)).length / 64)) := by
  unfold shaB padB64
  rw [tailB_append hp, List.length_append, List.length_append]
  have e : (p.length + (tailB r (p.length + r.length)).length) / 64 = q + (tailB r (p.length + r.length)).length / 64 := by rw [hp]; omega
  rw [e, foldK_append hp]
/-- One block more. -/
theorem foldK_block {s : St} {a b : List UInt8} {q : Nat} (ha : a.length = 64 * q) (hb : b.length = 64) : foldK s (a ++ b) (q + 1) = mixB (foldK s a q) b := by
  rw [foldK_append ha]
  show mixB (foldK s a q) ((b.drop (64 * 0)).take 64) = _
  rw [Nat.mul_zero, List.drop_zero, List.take_of_length_le (by omega)]
/-- The definition answers what FIPS 180-4 gives for 'abc'. -/
theorem sha_abc : shaB [97, 98, 99] = [0xba, 0x78, 0x16, 0xbf, 0x8f, 0x01, 0xcf, 0xea, 0x41, 0x41, 0x40, 0xde, 0x5d, 0xae, 0x22, 0x23, 0xb0, 0x03, 0x61, 0xa3, 0x96, 0x17, 0x7a, 0x9c, 0xb4, 0x10, 0xff, 0x61, 0xf2, 0x00, 0x15, 0xad] := by decide +kernel
end Go.Proofs.YtmcbpifkclhfiaaDoor
