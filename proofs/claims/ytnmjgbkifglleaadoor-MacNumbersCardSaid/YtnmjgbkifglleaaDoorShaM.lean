/-
  SHA-256 as mathematics on numbers below 2^32.
-/
namespace Go.Proofs.YtnmjgbkifglleaaDoor.sha

def rotr (x n : Nat) : Nat := (x * 2 ^ (32 - n)) % 4294967296 ||| x / 2 ^ n
theorem rotr_lt (x n : Nat) (h : x < 4294967296) : rotr x n < 4294967296 :=
  Nat.or_lt_two_pow (n := 32) (Nat.mod_lt _ (by decide)) (Nat.lt_of_le_of_lt (Nat.div_le_self _ _) h)
def lo (x : Nat) : Nat := x % 4294967296
theorem lo_lt (x : Nat) : lo x < 4294967296 := Nat.mod_lt _ (by decide)
def sg0 (x : Nat) : Nat := rotr x 7 ^^^ rotr x 18 ^^^ x / 8
def sg1 (x : Nat) : Nat := rotr x 17 ^^^ rotr x 19 ^^^ x / 1024
def bg0 (x : Nat) : Nat := rotr x 2 ^^^ rotr x 13 ^^^ rotr x 22
def bg1 (x : Nat) : Nat := rotr x 6 ^^^ rotr x 11 ^^^ rotr x 25
def ch (e f g : Nat) : Nat := (e &&& f) ^^^ ((4294967295 ^^^ e) &&& g)
def maj (a b c : Nat) : Nat := (a &&& b) ^^^ (a &&& c) ^^^ (b &&& c)

/-- The words a to h. -/
structure St where
  a : Nat
  b : Nat
  c : Nat
  d : Nat
  e : Nat
  f : Nat
  g : Nat
  h : Nat
deriving DecidableEq
def St.list (s : St) : List Nat := [s.a, s.b, s.c, s.d, s.e, s.f, s.g, s.h]
def St.Ok (s : St) : Prop := s.a < 4294967296 ∧ s.b < 4294967296 ∧ s.c < 4294967296 ∧ s.d < 4294967296 ∧ s.e < 4294967296 ∧ s.f < 4294967296 ∧ s.g < 4294967296 ∧ s.h < 4294967296
def one (s : St) (k w : Nat) : Nat := lo (s.h + bg1 s.e + ch s.e s.f s.g + k + w)
def two (s : St) : Nat := lo (bg0 s.a + maj s.a s.b s.c)
def step (s : St) (k w : Nat) : St := ⟨lo (one s k w + two s), s.a, s.b, s.c, lo (s.d + one s k w), s.e, s.f, s.g⟩
def steps (s : St) : List (Nat × Nat) → St
  | [] => s
  | p :: l => steps (step s p.1 p.2) l
def St.plus (s t : St) : St := ⟨lo (s.a + t.a), lo (s.b + t.b), lo (s.c + t.c), lo (s.d + t.d), lo (s.e + t.e), lo (s.f + t.f), lo (s.g + t.g), lo (s.h + t.h)⟩
theorem step_ok {s : St} (k w : Nat) (h : s.Ok) : (step s k w).Ok := by
  obtain ⟨h1, h2, h3, h4, h5, h6, h7, h8⟩ := h
  exact ⟨lo_lt _, h1, h2, h3, lo_lt _, h5, h6, h7⟩
theorem plus_ok (s t : St) : (s.plus t).Ok := ⟨lo_lt _, lo_lt _, lo_lt _, lo_lt _, lo_lt _, lo_lt _, lo_lt _, lo_lt _⟩
theorem steps_append (l m : List (Nat × Nat)) : ∀ s, steps s (l ++ m) = steps (steps s l) m := by
  induction l with
  | nil => exact fun s => rfl
  | cons p l ih => exact fun s => ih _
theorem steps_ok (l : List (Nat × Nat)) : ∀ s : St, s.Ok → (steps s l).Ok := by
  induction l with
  | nil => exact fun s h => h
  | cons p l ih => exact fun s h => ih _ (step_ok _ _ h)

/-- The words that a block makes: the first sixteen, and one more each time. -/
def word (l : List UInt8) (t : Nat) : Nat := (((l.getD (4 * t) 0).toNat * 16777216 + (l.getD (4 * t + 1) 0).toNat * 65536) + ((l.getD (4 * t + 2) 0).toNat * 256 + (l.getD (4 * t + 3) 0).toNat))
theorem word_lt (l : List UInt8) (t : Nat) : word l t < 4294967296 := by
  have h1 := (l.getD (4 * t) 0).toNat_lt
  have h2 := (l.getD (4 * t + 1) 0).toNat_lt
  have h3 := (l.getD (4 * t + 2) 0).toNat_lt
  have h4 := (l.getD (4 * t + 3) 0).toNat_lt
  unfold word
  omega
def first (l : List UInt8) : List Nat := (List.range 16).map (word l)
def next (ws : List Nat) (t : Nat) : Nat := lo (ws.getD (t - 16) 0 + sg0 (ws.getD (t - 15) 0) + ws.getD (t - 7) 0 + sg1 (ws.getD (t - 2) 0))
def more (ws : List Nat) : Nat → List Nat
  | 0 => ws
  | n + 1 => more ws n ++ [next (more ws n) (16 + n)]
def words (l : List UInt8) : List Nat := more (first l) 48
theorem first_length (l : List UInt8) : (first l).length = 16 := by simp [first]
theorem more_length (ws : List Nat) : ∀ n, (more ws n).length = ws.length + n
  | 0 => rfl
  | n + 1 => by rw [more, List.length_append, more_length ws n]; rfl
theorem words_length (l : List UInt8) : (words l).length = 64 := by rw [words, more_length, first_length]
theorem first_lt (l : List UInt8) : ∀ x ∈ first l, x < 4294967296 := fun x hx => by
  obtain ⟨t, _, rfl⟩ := List.mem_map.1 hx
  exact word_lt l t
theorem more_lt (ws : List Nat) (h : ∀ x ∈ ws, x < 4294967296) : ∀ n, ∀ x ∈ more ws n, x < 4294967296
  | 0 => h
  | n + 1 => fun x hx => by
    rw [more, List.mem_append] at hx
    rcases hx with hx | hx
    · exact more_lt ws h n x hx
    · rw [List.mem_singleton.1 hx]; exact lo_lt _
theorem words_lt (l : List UInt8) : ∀ x ∈ words l, x < 4294967296 := more_lt _ (first_lt l) 48

def consts : List Nat := [
  0x428a2f98, 0x71374491, 0xb5c0fbcf, 0xe9b5dba5, 0x3956c25b, 0x59f111f1, 0x923f82a4, 0xab1c5ed5,
  0xd807aa98, 0x12835b01, 0x243185be, 0x550c7dc3, 0x72be5d74, 0x80deb1fe, 0x9bdc06a7, 0xc19bf174,
  0xe49b69c1, 0xefbe4786, 0x0fc19dc6, 0x240ca1cc, 0x2de92c6f, 0x4a7484aa, 0x5cb0a9dc, 0x76f988da,
  0x983e5152, 0xa831c66d, 0xb00327c8, 0xbf597fc7, 0xc6e00bf3, 0xd5a79147, 0x06ca6351, 0x14292967,
  0x27b70a85, 0x2e1b2138, 0x4d2c6dfc, 0x53380d13, 0x650a7354, 0x766a0abb, 0x81c2c92e, 0x92722c85,
  0xa2bfe8a1, 0xa81a664b, 0xc24b8b70, 0xc76c51a3, 0xd192e819, 0xd6990624, 0xf40e3585, 0x106aa070,
  0x19a4c116, 0x1e376c08, 0x2748774c, 0x34b0bcb5, 0x391c0cb3, 0x4ed8aa4a, 0x5b9cca4f, 0x682e6ff3,
  0x748f82ee, 0x78a5636f, 0x84c87814, 0x8cc70208, 0x90befffa, 0xa4506ceb, 0xbef9a3f7, 0xc67178f2]
def start : St := ⟨0x6a09e667, 0xbb67ae85, 0x3c6ef372, 0xa54ff53a, 0x510e527f, 0x9b05688c, 0x1f83d9ab, 0x5be0cd19⟩
theorem consts_length : consts.length = 64 := rfl
theorem start_ok : start.Ok := by unfold St.Ok start; decide

/-- What a state becomes by one block. -/
def mix (s : St) (l : List UInt8) : St := s.plus (steps s (consts.zip (words l)))
def blocks (s : St) (l : List UInt8) : Nat → St
  | 0 => s
  | n + 1 => mix (blocks s l n) ((l.drop (64 * n)).take 64)
theorem mix_ok (s : St) (l : List UInt8) : (mix s l).Ok := plus_ok _ _
theorem blocks_ok (s : St) (l : List UInt8) (h : s.Ok) : ∀ n, (blocks s l n).Ok
  | 0 => h
  | n + 1 => mix_ok _ _
def be8 (n : Nat) : List UInt8 := [UInt8.ofNat (n / 72057594037927936), UInt8.ofNat (n / 281474976710656), UInt8.ofNat (n / 1099511627776), UInt8.ofNat (n / 4294967296), UInt8.ofNat (n / 16777216), UInt8.ofNat (n / 65536), UInt8.ofNat (n / 256), UInt8.ofNat n]
/-- A message's end. -/
def padz (r : Nat) : Nat := if r < 56 then 55 - r else 119 - r
def pad (rest : List UInt8) (n : Nat) : List UInt8 := rest ++ (128 :: (List.replicate (padz rest.length) 0 ++ be8 (8 * n)))
theorem pad_length (rest : List UInt8) (n : Nat) (h : rest.length < 64) : (pad rest n).length = if rest.length < 56 then 64 else 128 := by
  simp only [pad, List.length_append, List.length_cons, List.length_replicate, be8, padz, List.length_nil]
  split <;> omega
def be4 (n : Nat) : List UInt8 := [UInt8.ofNat (n / 16777216), UInt8.ofNat (n / 65536), UInt8.ofNat (n / 256), UInt8.ofNat n]
def St.bytes (s : St) : List UInt8 := (s.list.map be4).flatten
theorem bytes_length (s : St) : s.bytes.length = 32 := rfl
def sum (l : List UInt8) : List UInt8 :=
  let w := l.length - l.length % 64
  let e := pad (l.drop w) l.length
  (blocks (blocks start (l.take w) (w / 64)) e (e.length / 64)).bytes
theorem sum_length (l : List UInt8) : (sum l).length = 32 := rfl
end Go.Proofs.YtnmjgbkifglleaaDoor.sha
