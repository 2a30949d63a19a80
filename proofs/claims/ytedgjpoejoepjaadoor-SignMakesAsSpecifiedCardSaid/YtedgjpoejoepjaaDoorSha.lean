/-
  Plain mathematics of layer 2: SHA-256 on lists of bytes and words. Nothing here speaks of the program or of memory.
-/
namespace Go.Proofs.YtedgjpoejoepjaaDoor.Sha

def rotr (x : UInt32) (n : UInt32) : UInt32 := x >>> n ||| x <<< (32 - n)
def K : List UInt32 := [
  0x428a2f98, 0x71374491, 0xb5c0fbcf, 0xe9b5dba5, 0x3956c25b, 0x59f111f1, 0x923f82a4, 0xab1c5ed5,
  0xd807aa98, 0x12835b01, 0x243185be, 0x550c7dc3, 0x72be5d74, 0x80deb1fe, 0x9bdc06a7, 0xc19bf174,
  0xe49b69c1, 0xefbe4786, 0x0fc19dc6, 0x240ca1cc, 0x2de92c6f, 0x4a7484aa, 0x5cb0a9dc, 0x76f988da,
  0x983e5152, 0xa831c66d, 0xb00327c8, 0xbf597fc7, 0xc6e00bf3, 0xd5a79147, 0x06ca6351, 0x14292967,
  0x27b70a85, 0x2e1b2138, 0x4d2c6dfc, 0x53380d13, 0x650a7354, 0x766a0abb, 0x81c2c92e, 0x92722c85,
  0xa2bfe8a1, 0xa81a664b, 0xc24b8b70, 0xc76c51a3, 0xd192e819, 0xd6990624, 0xf40e3585, 0x106aa070,
  0x19a4c116, 0x1e376c08, 0x2748774c, 0x34b0bcb5, 0x391c0cb3, 0x4ed8aa4a, 0x5b9cca4f, 0x682e6ff3,
  0x748f82ee, 0x78a5636f, 0x84c87814, 0x8cc70208, 0x90befffa, 0xa4506ceb, 0xbef9a3f7, 0xc67178f2]
def H0 : List UInt32 := [0x6a09e667, 0xbb67ae85, 0x3c6ef372, 0xa54ff53a, 0x510e527f, 0x9b05688c, 0x1f83d9ab, 0x5be0cd19]

/-- the word of (at most four) bytes -/
def pw (l : List UInt8) : UInt32 := l.foldl (fun a c => a <<< 8 ||| c.toUInt32) 0
def s0 (x : UInt32) : UInt32 := rotr x 7 ^^^ rotr x 18 ^^^ x >>> 3
def s1 (x : UInt32) : UInt32 := rotr x 17 ^^^ rotr x 19 ^^^ x >>> 10
/-- the words of a block: word k -/
def word (b : List UInt8) (k : Nat) : UInt32 := pw ((b.drop (4 * k)).take 4)
def next (p : List UInt32) (t : Nat) : UInt32 := p.getD (t - 16) 0 + s0 (p.getD (t - 15) 0) + p.getD (t - 7) 0 + s1 (p.getD (t - 2) 0)
def sched (ws : List UInt32) : Nat → List UInt32
  | 0 => ws
  | n + 1 => sched ws n ++ [next (sched ws n) (16 + n)]
def words (b : List UInt8) : List UInt32 := sched ((List.range 16).map (word b)) 48

structure R where
  (a b c d e f g h : UInt32)
def stepX (s : R) (k w : UInt32) : UInt32 := s.h + (rotr s.e 6 ^^^ rotr s.e 11 ^^^ rotr s.e 25) + (s.e &&& s.f ^^^ ~~~ s.e &&& s.g) + k + w
def stepY (s : R) : UInt32 := (rotr s.a 2 ^^^ rotr s.a 13 ^^^ rotr s.a 22) + (s.a &&& s.b ^^^ s.a &&& s.c ^^^ s.b &&& s.c)
def step (s : R) (k w : UInt32) : R := ⟨stepX s k w + stepY s, s.a, s.b, s.c, s.d + stepX s k w, s.e, s.f, s.g⟩
def rounds (ws : List UInt32) (s : R) : Nat → R
  | 0 => s
  | n + 1 => step (rounds ws s n) (K.getD n 0) (ws.getD n 0)
def ofList (v : List UInt32) : R := ⟨v.getD 0 0, v.getD 1 0, v.getD 2 0, v.getD 3 0, v.getD 4 0, v.getD 5 0, v.getD 6 0, v.getD 7 0⟩
def R.list (s : R) : List UInt32 := [s.a, s.b, s.c, s.d, s.e, s.f, s.g, s.h]
/-- the hash value after a block -/
def compress (v : List UInt32) (b : List UInt8) : List UInt32 := List.zipWith (· + ·) v (rounds (words b) (ofList v) 64).list
/-- the hash value after so many blocks of a message -/
def blocks (v : List UInt32) (m : List UInt8) : Nat → List UInt32
  | 0 => v
  | n + 1 => compress (blocks v m n) ((m.drop (64 * n)).take 64)
/-- the eight bytes of a number, most significant first -/
def be8 (n : Nat) : List UInt8 := (List.range 8).map fun i => UInt8.ofNat (n / 2 ^ (56 - 8 * i))
/-- the padded message -/
def pad (m : List UInt8) : List UInt8 := m ++ 128 :: List.replicate ((119 - m.length % 64) % 64) 0 ++ be8 (8 * m.length % 2 ^ 64)
/-- the bytes of words -/
def bytes (v : List UInt32) : List UInt8 := v.flatMap fun x => [UInt8.ofNat (x.toNat / 2 ^ 24), UInt8.ofNat (x.toNat / 2 ^ 16), UInt8.ofNat (x.toNat / 2 ^ 8), UInt8.ofNat x.toNat]
def sum (m : List UInt8) : List UInt8 := bytes (blocks H0 (pad m) ((pad m).length / 64))

theorem sum_abc : sum [97, 98, 99] = [0xba, 0x78, 0x16, 0xbf, 0x8f, 0x01, 0xcf, 0xea, 0x41, 0x41, 0x40, 0xde, 0x5d, 0xae, 0x22, 0x23, 0xb0, 0x03, 0x61, 0xa3, 0x96, 0x17, 0x7a, 0x9c, 0xb4, 0x10, 0xff, 0x61, 0xf2, 0x00, 0x15, 0xad] := by decide +kernel
end Go.Proofs.YtedgjpoejoepjaaDoor.Sha
