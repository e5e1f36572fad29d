/-
  SHA-256 in plain words: what the program of layer 2 works out, the seats in a row that is gone round. No statement of the seat is proved here.
-/
namespace Go.Proofs.YtgdcjealhbfnaaaDoor

def rotr (x : BitVec 32) (i : Nat) : BitVec 32 := x <<< (32 - i) ||| x >>> i
def sR (x : BitVec 32) (i j k : Nat) : BitVec 32 := rotr x i ^^^ rotr x j ^^^ rotr x k
def sN (x : BitVec 32) (i j k : Nat) : BitVec 32 := rotr x i ^^^ rotr x j ^^^ x >>> k
def chv (e f g : BitVec 32) : BitVec 32 := e &&& f ||| ~~~e &&& g
def majv (a b c : BitVec 32) : BitVec 32 := a &&& b ||| a &&& c ||| b &&& c

/-- The cubes' root words. -/
def cubes : List (BitVec 32) := [0x428a2f98, 0x71374491, 0xb5c0fbcf, 0xe9b5dba5, 0x3956c25b, 0x59f111f1, 0x923f82a4, 0xab1c5ed5,
  0xd807aa98, 0x12835b01, 0x243185be, 0x550c7dc3, 0x72be5d74, 0x80deb1fe, 0x9bdc06a7, 0xc19bf174,
  0xe49b69c1, 0xefbe4786, 0x0fc19dc6, 0x240ca1cc, 0x2de92c6f, 0x4a7484aa, 0x5cb0a9dc, 0x76f988da,
  0x983e5152, 0xa831c66d, 0xb00327c8, 0xbf597fc7, 0xc6e00bf3, 0xd5a79147, 0x06ca6351, 0x14292967,
  0x27b70a85, 0x2e1b2138, 0x4d2c6dfc, 0x53380d13, 0x650a7354, 0x766a0abb, 0x81c2c92e, 0x92722c85,
  0xa2bfe8a1, 0xa81a664b, 0xc24b8b70, 0xc76c51a3, 0xd192e819, 0xd6990624, 0xf40e3585, 0x106aa070,
  0x19a4c116, 0x1e376c08, 0x2748774c, 0x34b0bcb5, 0x391c0cb3, 0x4ed8aa4a, 0x5b9cca4f, 0x682e6ff3,
  0x748f82ee, 0x78a5636f, 0x84c87814, 0x8cc70208, 0x90befffa, 0xa4506ceb, 0xbef9a3f7, 0xc67178f2]
/-- The seats at first. -/
def seats0 : List (BitVec 32) := [0x6a09e667, 0xbb67ae85, 0x3c6ef372, 0xa54ff53a, 0x510e527f, 0x9b05688c, 0x1f83d9ab, 0x5be0cd19]

/-- Four bytes as a word, the highest one first. -/
def word4 (a b c d : UInt8) : BitVec 32 := BitVec.ofNat 32 (((a.toNat * 256 + b.toNat) * 256 + c.toNat) * 256 + d.toNat)
/-- The word that follows the words so far. -/
def nextWord (ws : List (BitVec 32)) (t : Nat) : BitVec 32 := ws.getD (t - 16) 0 + sN (ws.getD (t - 15) 0) 7 18 3 + ws.getD (t - 7) 0 + sN (ws.getD (t - 2) 0) 17 19 10
/-- The first words of a block that is rolled out. -/
def rollW (b : List UInt8) : Nat → List (BitVec 32)
  | 0 => []
  | t + 1 => rollW b t ++ [if t < 16 then word4 (b.getD (4 * t) 0) (b.getD (4 * t + 1) 0) (b.getD (4 * t + 2) 0) (b.getD (4 * t + 3) 0) else nextWord (rollW b t) t]
theorem rollW_length (b : List UInt8) : ∀ t, (rollW b t).length = t
  | 0 => rfl
  | t + 1 => by simp [rollW, rollW_length b t]

/-- Where a seat is at a step. -/
def seatAt (t s : Nat) : Nat := (s + 64 - t) % 8
theorem seatAt_lt (t s : Nat) : seatAt t s < 8 := Nat.mod_lt _ (by decide)
def stepX (row ws : List (BitVec 32)) (t : Nat) : BitVec 32 :=
  row.getD (seatAt t 7) 0 + sR (row.getD (seatAt t 4) 0) 6 11 25 + cubes.getD t 0 + ws.getD t 0 + chv (row.getD (seatAt t 4) 0) (row.getD (seatAt t 5) 0) (row.getD (seatAt t 6) 0)
def stepY (row : List (BitVec 32)) (t : Nat) : BitVec 32 :=
  sR (row.getD (seatAt t 0) 0) 2 13 22 + majv (row.getD (seatAt t 0) 0) (row.getD (seatAt t 1) 0) (row.getD (seatAt t 2) 0)
def stepRow (row ws : List (BitVec 32)) (t : Nat) : List (BitVec 32) :=
  (row.set (seatAt t 3) (row.getD (seatAt t 3) 0 + stepX row ws t)).set (seatAt t 7) (stepX row ws t + stepY row t)
/-- The row behind so many steps. -/
def rowAt (seats ws : List (BitVec 32)) : Nat → List (BitVec 32)
  | 0 => seats
  | t + 1 => stepRow (rowAt seats ws t) ws t
theorem rowAt_length (seats ws : List (BitVec 32)) : ∀ t, (rowAt seats ws t).length = seats.length
  | 0 => rfl
  | t + 1 => by simp [rowAt, stepRow, rowAt_length seats ws t]
/-- The seats behind a block. -/
def workBlock (seats : List (BitVec 32)) (b : List UInt8) : List (BitVec 32) := List.zipWith (· + ·) (rowAt seats (rollW b 64) 64) seats
theorem workBlock_length (seats : List (BitVec 32)) (b : List UInt8) : (workBlock seats b).length = seats.length := by
  simp [workBlock, rowAt_length]
/-- So many blocks, worked in one by one. -/
def absorb : Nat → List (BitVec 32) → List UInt8 → List (BitVec 32)
  | 0, s, _ => s
  | n + 1, s, m => absorb n (workBlock s (m.take 64)) (m.drop 64)
theorem absorb_length : ∀ (n : Nat) (s : List (BitVec 32)) (m : List UInt8), (absorb n s m).length = s.length
  | 0, _, _ => rfl
  | n + 1, s, m => by rw [absorb, absorb_length n, workBlock_length]
theorem absorb_snoc : ∀ (n : Nat) (s : List (BitVec 32)) (m : List UInt8), absorb (n + 1) s m = workBlock (absorb n s m) ((m.drop (64 * n)).take 64)
  | 0, s, m => by simp [absorb]
  | n + 1, s, m => by
    rw [absorb, absorb_snoc n, absorb, List.drop_drop]
    congr 3
    omega

/-- Eight bytes, the highest one first. -/
def be8 (n : Nat) : List UInt8 := [UInt8.ofNat (n / 2 ^ 56), UInt8.ofNat (n / 2 ^ 48), UInt8.ofNat (n / 2 ^ 40), UInt8.ofNat (n / 2 ^ 32), UInt8.ofNat (n / 2 ^ 24), UInt8.ofNat (n / 2 ^ 16), UInt8.ofNat (n / 2 ^ 8), UInt8.ofNat n]
/-- How many bytes the end of a message has. -/
def endSize (r : Nat) : Nat := if 55 < r then 128 else 64
/-- The end of the message of so many bytes, of which these did not fill a block. -/
def msgEnd (rest : List UInt8) (total : Nat) : List UInt8 := rest ++ [128] ++ List.replicate (endSize rest.length - 9 - rest.length) 0 ++ be8 (8 * total)
def word4B (x : BitVec 32) : List UInt8 := [UInt8.ofNat (x.toNat / 2 ^ 24), UInt8.ofNat (x.toNat / 2 ^ 16), UInt8.ofNat (x.toNat / 2 ^ 8), UInt8.ofNat x.toNat]
def seatB (s : List (BitVec 32)) : List UInt8 := s.flatMap word4B
/-- The hash of some bytes. -/
def sha (b : List UInt8) : List UInt8 :=
  seatB (absorb (endSize (b.length % 64) / 64) (absorb (b.length / 64) seats0 b) (msgEnd (b.drop (64 * (b.length / 64))) b.length))
/-- A key's block. -/
def keyB (key : List UInt8) : List UInt8 := if 64 < key.length then sha key ++ List.replicate 32 0 else key ++ List.replicate (64 - key.length) 0
def heldB (block : List UInt8) (x : UInt8) : List UInt8 := block.map (· ^^^ x)
def hmac (key b : List UInt8) : List UInt8 := sha (heldB (keyB key) 92 ++ sha (heldB (keyB key) 54 ++ b))
def hexDigits : List UInt8 := [48, 49, 50, 51, 52, 53, 54, 55, 56, 57, 97, 98, 99, 100, 101, 102]
def hexDigit (n : Nat) : UInt8 := hexDigits.getD n 0
def hexB (h : List UInt8) : List UInt8 := h.flatMap fun x => [hexDigit (x.toNat / 16), hexDigit (x.toNat % 16)]
end Go.Proofs.YtgdcjealhbfnaaaDoor
