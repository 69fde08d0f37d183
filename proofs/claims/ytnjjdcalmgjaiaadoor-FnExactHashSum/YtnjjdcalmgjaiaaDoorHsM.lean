/- Sums: the plain mathematics that the program and the model share. -/
import Derived.Test.YtnjjdcalmgjaiaaDoorBase
import Derived.Laws.BytesArg
namespace Go.Proofs.YtnjjdcalmgjaiaaDoor
open Go.ChangeShapes Go.WideShapes Go.ChangeAt Go.RowKit

theorem bits_comm_or (x y : Int) : bits .or .u32 x y = bits .or .u32 y x := by
  unfold bits
  simp only []
  rw [BitVec.or_comm]
theorem wrapU (x : Int) : IntKind.u32.wrap x = x % 4294967296 := by simp [IntKind.wrap, IntKind.bits, IntKind.signed]
/-- The last four bits. -/
theorem bits_15 (x : Int) (h0 : 0 ≤ x) (h1 : x < 4294967296) : bits .and .u32 x 15 = x % 16 := by
  obtain ⟨n, rfl⟩ := Int.eq_ofNat_of_zero_le h0
  have e1 : (BitVec.ofInt 32 (n : Int)).toNat = n := by
    rw [BitVec.ofInt_natCast, BitVec.toNat_ofNat, Nat.mod_eq_of_lt (by omega)]
  have e2 : (BitVec.ofInt 32 (15 : Int)).toNat = 15 := rfl
  have e3 : (BitVec.ofInt 32 (n : Int) &&& BitVec.ofInt 32 15).toNat = n % 16 := by
    rw [BitVec.toNat_and, e1, e2]
    exact Nat.and_two_pow_sub_one_eq_mod n 4
  show IntKind.u32.wrap ((BitVec.ofInt 32 (n : Int) &&& BitVec.ofInt 32 15).toNat : Int) = _
  rw [e3, wrapU]
  omega
/-- Bits turned to the right. -/
def rotR (x : Int) (n : Nat) : Int := bits .or .u32 (x / (2 : Int) ^ n) (x * (2 : Int) ^ (32 - n) % 4294967296)

/-- The state of a sum. -/
structure H8 where
  a : Int
  b : Int
  c : Int
  d : Int
  e : Int
  f : Int
  g : Int
  h : Int
def H8.l (s : H8) : List Int := [s.a, s.b, s.c, s.d, s.e, s.f, s.g, s.h]
def hash0 : H8 := ⟨0x6a09e667, 0xbb67ae85, 0x3c6ef372, 0xa54ff53a, 0x510e527f, 0x9b05688c, 0x1f83d9ab, 0x5be0cd19⟩
/-- The constants of the rounds. -/
def hashK : List Int := [
  0x428a2f98, 0x71374491, 0xb5c0fbcf, 0xe9b5dba5, 0x3956c25b, 0x59f111f1, 0x923f82a4, 0xab1c5ed5,
  0xd807aa98, 0x12835b01, 0x243185be, 0x550c7dc3, 0x72be5d74, 0x80deb1fe, 0x9bdc06a7, 0xc19bf174,
  0xe49b69c1, 0xefbe4786, 0x0fc19dc6, 0x240ca1cc, 0x2de92c6f, 0x4a7484aa, 0x5cb0a9dc, 0x76f988da,
  0x983e5152, 0xa831c66d, 0xb00327c8, 0xbf597fc7, 0xc6e00bf3, 0xd5a79147, 0x06ca6351, 0x14292967,
  0x27b70a85, 0x2e1b2138, 0x4d2c6dfc, 0x53380d13, 0x650a7354, 0x766a0abb, 0x81c2c92e, 0x92722c85,
  0xa2bfe8a1, 0xa81a664b, 0xc24b8b70, 0xc76c51a3, 0xd192e819, 0xd6990624, 0xf40e3585, 0x106aa070,
  0x19a4c116, 0x1e376c08, 0x2748774c, 0x34b0bcb5, 0x391c0cb3, 0x4ed8aa4a, 0x5b9cca4f, 0x682e6ff3,
  0x748f82ee, 0x78a5636f, 0x84c87814, 0x8cc70208, 0x90befffa, 0xa4506ceb, 0xbef9a3f7, 0xc67178f2]
theorem hashK_len : hashK.length = 64 := rfl
/-- What one round adds to two of the words. -/
def rndA (s : H8) (x : Int) : Int :=
  ((((((s.h + bits .xor .u32 (bits .xor .u32 (rotR s.e 6) (rotR s.e 11)) (rotR s.e 25)) % 4294967296) + bits .xor .u32 (bits .and .u32 s.e s.f) (bits .and .u32 (bits .xor .u32 4294967295 s.e) s.g)) % 4294967296) + x) % 4294967296)
def rndB (s : H8) : Int := bits .xor .u32 (bits .xor .u32 (rotR s.a 2) (rotR s.a 13)) (rotR s.a 22)
def rndC (s : H8) : Int := bits .xor .u32 (bits .xor .u32 (bits .and .u32 s.a s.b) (bits .and .u32 s.a s.c)) (bits .and .u32 s.b s.c)
/-- One round. -/
def rnd (s : H8) (x : Int) : H8 :=
  ⟨((((rndA s x + rndB s) % 4294967296) + rndC s) % 4294967296), s.a, s.b, s.c, ((s.d + rndA s x) % 4294967296), s.e, s.f, s.g⟩
theorem rndA_two (s : H8) (k x : Int) : rndA s (((k + x) % 4294967296)) = ((((((((s.h + bits .xor .u32 (bits .xor .u32 (rotR s.e 6) (rotR s.e 11)) (rotR s.e 25)) % 4294967296) + bits .xor .u32 (bits .and .u32 s.e s.f) (bits .and .u32 (bits .xor .u32 4294967295 s.e) s.g)) % 4294967296) + k) % 4294967296) + x) % 4294967296) := by
  unfold rndA
  generalize bits .xor .u32 (bits .xor .u32 (rotR s.e 6) (rotR s.e 11)) (rotR s.e 25) = A
  generalize bits .xor .u32 (bits .and .u32 s.e s.f) (bits .and .u32 (bits .xor .u32 4294967295 s.e) s.g) = B
  omega
/-- The state behind some of the rounds. -/
def rndN (s : H8) (ws : List Int) : Nat → H8
  | 0 => s
  | n + 1 => rnd (rndN s ws n) (((hashK.getD n 0 + ws.getD n 0) % 4294967296))
/-- The state behind a block of which the words are told. -/
def addH (s t : H8) : H8 := ⟨((s.a + t.a) % 4294967296), ((s.b + t.b) % 4294967296), ((s.c + t.c) % 4294967296), ((s.d + t.d) % 4294967296), ((s.e + t.e) % 4294967296), ((s.f + t.f) % 4294967296), ((s.g + t.g) % 4294967296), ((s.h + t.h) % 4294967296)⟩
def behindH (s : H8) (ws : List Int) : H8 := addH s (rndN s ws 64)

/-- A word out of four bytes of a block. -/
def wordH (b : List Int) (i : Nat) : Int :=
  bits .or .u32 (bits .or .u32 (bits .or .u32 (b.getD (4 * i) 0 * 16777216) (b.getD (4 * i + 1) 0 * 65536)) (b.getD (4 * i + 2) 0 * 256)) (b.getD (4 * i + 3) 0)
/-- A word out of those ahead of it. -/
def nextH (w : List Int) (i : Nat) : Int :=
  (w.getD (i - 16) 0 + bits .xor .u32 (bits .xor .u32 (rotR (w.getD (i - 15) 0) 7) (rotR (w.getD (i - 15) 0) 18)) (w.getD (i - 15) 0 / (2 : Int) ^ 3) + w.getD (i - 7) 0 + bits .xor .u32 (bits .xor .u32 (rotR (w.getD (i - 2) 0) 17) (rotR (w.getD (i - 2) 0) 19)) (w.getD (i - 2) 0 / (2 : Int) ^ 10)) % 4294967296
/-- The first words of a block. -/
def sprN (b : List Int) : Nat → List Int
  | 0 => []
  | n + 1 => sprN b n ++ [if n < 16 then wordH b n else nextH (sprN b n) n]
theorem sprN_len (b : List Int) : ∀ n, (sprN b n).length = n
  | 0 => rfl
  | n + 1 => by simp [sprN, sprN_len b n]
/-- How many noughts come behind a text. -/
def noughts (n : Nat) : Nat := (119 - n % 64) % 64
theorem noughts_at (n j : Nat) (h : j < noughts n) : (n + 1 + j) % 64 ≠ 56 := by unfold noughts at h; omega
theorem noughts_end (n : Nat) : (n + 1 + noughts n) % 64 = 56 := by unfold noughts; omega
theorem noughts_le (n : Nat) : noughts n ≤ 63 := by unfold noughts; omega
/-- The bytes that tell how many bits there were. -/
def lenH (n : Nat) : Nat → List Int
  | 0 => []
  | j + 1 => lenH n j ++ [((n : Int) * 8) / (2 : Int) ^ (8 * (7 - j)) % 256]
theorem lenH_len (n : Nat) : ∀ j, (lenH n j).length = j
  | 0 => rfl
  | j + 1 => by simp [lenH, lenH_len n j]
/-- A text as whole blocks. -/
def padH (xs : List Int) : List Int := xs ++ 128 :: List.replicate (noughts xs.length) 0 ++ lenH xs.length 8
theorem padH_len (xs : List Int) : (padH xs).length = xs.length + 9 + noughts xs.length := by simp [padH, lenH_len]; omega
theorem padH_mod (xs : List Int) : (padH xs).length % 64 = 0 := by rw [padH_len]; have := noughts_end xs.length; omega
/-- The state behind some of the blocks. -/
def sumH (p : List Int) : Nat → H8
  | 0 => hash0
  | n + 1 => behindH (sumH p n) (sprN ((p.drop (64 * n)).take 64) 64)
/-- A figure. -/
def figH (n : Int) : Int := if n < 10 then 48 + n else 87 + n
/-- The figures of a word. -/
def figW (x : Int) : Nat → List Int
  | 0 => []
  | j + 1 => figW x j ++ [figH (x / (2 : Int) ^ (4 * (7 - j)) % 16)]
/-- The figures of some of the words. -/
def figL : List Int → List Int
  | [] => []
  | x :: r => figW x 8 ++ figL r
/-- The sum of bytes. -/
def hashH (xs : List Int) : List Int := figL (sumH (padH xs) ((padH xs).length / 64)).l
end Go.Proofs.YtnjjdcalmgjaiaaDoor
