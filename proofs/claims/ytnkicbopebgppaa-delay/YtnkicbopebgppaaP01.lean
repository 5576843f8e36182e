import Derived.WalkKit
import Derived.WalkLawsBesides
import Derived.Deep.OwnRows
import Derived.ArgAppend
import Derived.Deep.RegionWith
import Derived.Deep.RegionLaw
import Derived.Deep.QuietTactic
import Derived.BigQuiet
import Derived.Deep.LoopGhost
import Derived.Deep.CutRange
import Derived.Deep.DeepCutAuto
import Derived.Deep.DeepFit
import Derived.StillTailTactics
import Derived.Test.YtnkicbopebgppaaProg
namespace Fl

/-- Bit by bit, from the highest on: the greatest x with x * x * n at most T. -/
def grow (T n : Nat) : Nat → Nat → Nat
  | 0, x => x
  | k + 1, x => grow T n k (if (x + 2 ^ k) * (x + 2 ^ k) * n ≤ T then x + 2 ^ k else x)

theorem grow_lt (T n : Nat) : ∀ k x, grow T n k x < x + 2 ^ k
  | 0, x => by simp [grow]
  | k + 1, x => by
    rw [grow]
    have h2 : 2 ^ (k + 1) = 2 ^ k + 2 ^ k := by rw [Nat.pow_succ]; omega
    have hp := Nat.two_pow_pos k
    split
    · have := grow_lt T n k (x + 2 ^ k); omega
    · have := grow_lt T n k x; omega

theorem grow_keeps (T n : Nat) : ∀ k x, x * x * n ≤ T → grow T n k x * grow T n k x * n ≤ T
  | 0, x, h => by simpa [grow] using h
  | k + 1, x, h => by
    rw [grow]
    split
    · rename_i h'; exact grow_keeps T n k _ h'
    · exact grow_keeps T n k x h

/-- The step for a count. -/
def stepOf (I n : Nat) : Nat := grow (I * I) (if n ≤ 4294967295 then n else 4294967295) 41 0

theorem stepOf_le (I n : Nat) (hn : 1 ≤ n) : stepOf I n ≤ I := by
  unfold stepOf
  generalize hm : (if n ≤ 4294967295 then n else 4294967295) = m
  have hm1 : 1 ≤ m := by rw [← hm]; split <;> omega
  have h := grow_keeps (I * I) m 41 0 (by simp)
  generalize grow (I * I) m 41 0 = x at h
  by_cases hx : x ≤ I
  · exact hx
  · exfalso
    have h1 : (I + 1) * (I + 1) ≤ x * x := Nat.mul_le_mul (by omega) (by omega)
    have h2 : x * x * 1 ≤ x * x * m := Nat.mul_le_mul (Nat.le_refl _) hm1
    have h3 : (I + 1) * (I + 1) = I * I + 2 * I + 1 := by rw [Nat.add_mul, Nat.mul_add]; omega
    omega

theorem grow_skip (T n k : Nat) (h : T < 2 ^ k * 2 ^ k * n) : grow T n (k + 1) 0 = grow T n k 0 := by
  rw [grow, if_neg (by rw [Nat.zero_add]; omega)]

/-- One bit more at the head changes nothing. -/
theorem grow_42 (I n : Nat) (hI : I ≤ 1099511627776) (hn : 1 ≤ n) : grow (I * I) n 42 0 = grow (I * I) n 41 0 := by
  refine grow_skip _ _ _ ?_
  have h1 : I * I ≤ 1099511627776 * 1099511627776 := Nat.mul_le_mul hI hI
  have h2 : 2 ^ 41 * 2 ^ 41 * 1 ≤ 2 ^ 41 * 2 ^ 41 * n := Nat.mul_le_mul (Nat.le_refl _) hn
  have h3 : 2 ^ 41 * 2 ^ 41 * 1 = 4835703278458516698824704 := by decide
  omega

/-- The product of two words out of products of halves. -/
theorem mul_halves (a1 a0 b1 b0 : Nat) (ha : a0 < 4294967296) (hb : b0 < 4294967296) (ha1 : a1 < 4294967296) (hb1 : b1 < 4294967296) :
    a1 * b0 + a0 * b0 / 4294967296 < 18446744073709551616 ∧
    a0 * b1 + (a1 * b0 + a0 * b0 / 4294967296) % 4294967296 < 18446744073709551616 ∧
    a0 * b0 < 18446744073709551616 ∧ a1 * b1 < 18446744073709551616 ∧ a1 * b0 < 18446744073709551616 ∧ a0 * b1 < 18446744073709551616 ∧
    (a1 * b1 + (a1 * b0 + a0 * b0 / 4294967296) / 4294967296 + (a0 * b1 + (a1 * b0 + a0 * b0 / 4294967296) % 4294967296) / 4294967296) < 18446744073709551616 ∧
    a1 * b1 + (a1 * b0 + a0 * b0 / 4294967296) / 4294967296 < 18446744073709551616 ∧
    (a1 * b1 + (a1 * b0 + a0 * b0 / 4294967296) / 4294967296 + (a0 * b1 + (a1 * b0 + a0 * b0 / 4294967296) % 4294967296) / 4294967296) * 18446744073709551616
      + ((a0 * b1 + (a1 * b0 + a0 * b0 / 4294967296) % 4294967296) % 4294967296 * 4294967296 + a0 * b0 % 4294967296) = (a1 * 4294967296 + a0) * (b1 * 4294967296 + b0) := by
  have e : (a1 * 4294967296 + a0) * (b1 * 4294967296 + b0) = a1 * b1 * 18446744073709551616 + a1 * b0 * 4294967296 + a0 * b1 * 4294967296 + a0 * b0 := by
    rw [Nat.add_mul, Nat.mul_add, Nat.mul_add]
    have h1 : a1 * 4294967296 * (b1 * 4294967296) = a1 * b1 * 18446744073709551616 := by
      rw [Nat.mul_mul_mul_comm]
    have h2 : a1 * 4294967296 * b0 = a1 * b0 * 4294967296 := by rw [Nat.mul_right_comm]
    have h3 : a0 * (b1 * 4294967296) = a0 * b1 * 4294967296 := by rw [Nat.mul_assoc]
    omega
  rw [e]
  have p00 : a0 * b0 ≤ 4294967295 * 4294967295 := Nat.mul_le_mul (by omega) (by omega)
  have p01 : a0 * b1 ≤ 4294967295 * 4294967295 := Nat.mul_le_mul (by omega) (by omega)
  have p10 : a1 * b0 ≤ 4294967295 * 4294967295 := Nat.mul_le_mul (by omega) (by omega)
  have p11 : a1 * b1 ≤ 4294967295 * 4294967295 := Nat.mul_le_mul (by omega) (by omega)
  generalize a0 * b0 = x at *
  generalize a0 * b1 = y at *
  generalize a1 * b0 = z at *
  generalize a1 * b1 = t at *
  omega

end Fl
namespace Fl

def hi64 (n : Nat) : Nat := n / 18446744073709551616
def lo64 (n : Nat) : Nat := n % 18446744073709551616

theorem hi64_lt (n : Nat) (h : n < 340282366920938463463374607431768211456) : hi64 n < 18446744073709551616 := by unfold hi64; omega
theorem lo64_lt (n : Nat) : lo64 n < 18446744073709551616 := Nat.mod_lt _ (by decide)
theorem hilo (n : Nat) : n = hi64 n * 18446744073709551616 + lo64 n := by unfold hi64 lo64; omega
theorem hi64_of (n h l : Nat) (hl : l < 18446744073709551616) (e : n = h * 18446744073709551616 + l) : hi64 n = h := by unfold hi64; omega
theorem lo64_of (n h l : Nat) (hl : l < 18446744073709551616) (e : n = h * 18446744073709551616 + l) : lo64 n = l := by unfold lo64; omega

theorem hilo_le (m n : Nat) : (hi64 m < hi64 n ∨ hi64 m = hi64 n ∧ lo64 m ≤ lo64 n) ↔ m ≤ n := by
  unfold hi64 lo64; omega

theorem times_hilo (v n : Nat) (h : v * n < 340282366920938463463374607431768211456) :
    hi64 (lo64 v * n) + hi64 v * n = hi64 (v * n) ∧ lo64 (lo64 v * n) = lo64 (v * n) ∧ hi64 v * n < 18446744073709551616 ∧ hi64 (lo64 v * n) + hi64 v * n < 18446744073709551616 := by
  have e : v * n = hi64 v * n * 18446744073709551616 + lo64 v * n := by
    conv => lhs; rw [hilo v]
    rw [Nat.add_mul, Nat.mul_right_comm]
  rw [e] at h ⊢
  generalize lo64 v * n = p at *
  generalize hi64 v * n = q at *
  unfold hi64 lo64
  omega

end Fl

namespace Fl

/-- A word turned to the left by n bits. -/
def rotl (n x : Nat) : Nat := x * 2 ^ n % 18446744073709551616 + x / 2 ^ (64 - n)

/-- The four words that the rounds stir. -/
structure S4 where
  a : Nat
  b : Nat
  c : Nat
  d : Nat

def S4.ok (s : S4) : Prop := s.a < 18446744073709551616 ∧ s.b < 18446744073709551616 ∧ s.c < 18446744073709551616 ∧ s.d < 18446744073709551616

def sipRound (s : S4) : S4 :=
  let a1 := (s.a + s.b) % 18446744073709551616
  let b1 := rotl 13 s.b ^^^ a1
  let a2 := rotl 32 a1
  let c1 := (s.c + s.d) % 18446744073709551616
  let d1 := rotl 16 s.d ^^^ c1
  let a3 := (a2 + d1) % 18446744073709551616
  let d2 := rotl 21 d1 ^^^ a3
  let c2 := (c1 + b1) % 18446744073709551616
  let b2 := rotl 17 b1 ^^^ c2
  let c3 := rotl 32 c2
  ⟨a3, b2, c3, d2⟩

def iter {α : Type} (f : α → α) : Nat → α → α
  | 0, x => x
  | n + 1, x => iter f n (f x)

theorem iter_ok {α : Type} (f : α → α) (p : α → Prop) (hf : ∀ x, p x → p (f x)) (n : Nat) : ∀ x, p x → p (iter f n x) := by
  induction n with
  | zero => intro x h; exact h
  | succ n ih => intro x h; exact ih (f x) (hf x h)

/-- k, k + 8, k + 16, .., n of them. -/
def eights {α : Type} (f : Nat → α → α) : Nat → Nat → α → α
  | 0, _, x => x
  | n + 1, k, x => eights f n (k + 8) (f k x)

theorem eights_ok {α : Type} (f : Nat → α → α) (p : α → Prop) (hf : ∀ k x, p x → p (f k x)) (n : Nat) : ∀ k x, p x → p (eights f n k x) := by
  induction n with
  | zero => intro k x h; exact h
  | succ n ih => intro k x h; exact ih (k + 8) (f k x) (hf k x h)

def sipRounds (n : Nat) (s : S4) : S4 := iter sipRound n s

def sipTake (s : S4) (m : Nat) : S4 :=
  let t := sipRounds 2 ⟨s.a, s.b, s.c, s.d ^^^ m⟩
  ⟨t.a ^^^ m, t.b, t.c, t.d⟩

/-- Byte i of a text; 0 beyond its end. -/
def byteAt (t : ByteArray) (i : Nat) : Nat := if h : i < t.size then t[i].toNat else 0

/-- The number of the bytes from place k on, n of them, the low one first. -/
def lowFirst (t : ByteArray) (k : Nat) : Nat → Nat
  | 0 => 0
  | n + 1 => byteAt t k + 256 * lowFirst t (k + 1) n

def word8 (t : ByteArray) (k : Nat) : Nat := lowFirst t k 8

/-- n words of a text, from place k on, are taken. -/
def sipWords (t : ByteArray) (n k : Nat) (s : S4) : S4 := eights (fun k s => sipTake s (word8 t k)) n k s

def sipStart (key : ByteArray) : S4 :=
  ⟨word8 key 0 ^^^ 0x736f6d6570736575, word8 key 8 ^^^ 0x646f72616e646f6d, word8 key 0 ^^^ 0x6c7967656e657261, word8 key 8 ^^^ 0x7465646279746573⟩

def sipEnd (s : S4) : Nat :=
  let t := sipRounds 4 ⟨s.a, s.b, s.c ^^^ 255, s.d⟩
  t.a ^^^ t.b ^^^ t.c ^^^ t.d

def sipHash (key t : ByteArray) : Nat :=
  let n := t.size / 8
  sipEnd (sipTake (sipWords t n 0 (sipStart key)) (word8 t (8 * n) + t.size % 256 * 72057594037927936))

theorem byteAt_lt (t : ByteArray) (i : Nat) : byteAt t i < 256 := by
  unfold byteAt; split
  · exact UInt8.toNat_lt _
  · omega

theorem lowFirst_lt (t : ByteArray) : ∀ n k, lowFirst t k n < 256 ^ n
  | 0, k => by simp [lowFirst]
  | n + 1, k => by
    have := lowFirst_lt t n (k + 1); have := byteAt_lt t k
    rw [lowFirst, Nat.pow_succ]; omega

theorem word8_lt (t : ByteArray) (k : Nat) : word8 t k < 18446744073709551616 := by
  have h := lowFirst_lt t 8 k
  rw [show (256 : Nat) ^ 8 = 18446744073709551616 by decide] at h
  exact h

theorem xor_lt {x y : Nat} (hx : x < 18446744073709551616) (hy : y < 18446744073709551616) : x ^^^ y < 18446744073709551616 :=
  by have := Nat.xor_lt_two_pow (x := x) (y := y) (n := 64) (by simpa using hx) (by simpa using hy); simpa using this

theorem rotl_lt (n x : Nat) (hn : n ≤ 64) (hx : x < 18446744073709551616) : rotl n x < 18446744073709551616 := by
  unfold rotl
  have hp := Nat.two_pow_pos n
  have h64 : 2 ^ n * 2 ^ (64 - n) = 18446744073709551616 := by rw [← Nat.pow_add, show n + (64 - n) = 64 by omega]
  have hq : x / 2 ^ (64 - n) < 2 ^ n := Nat.div_lt_of_lt_mul (by rw [Nat.mul_comm, h64]; exact hx)
  have hm : x * 2 ^ n % 18446744073709551616 = 2 ^ n * (x % 2 ^ (64 - n)) := by
    rw [← h64, Nat.mul_comm x, Nat.mul_mod_mul_left]
  have hr : x % 2 ^ (64 - n) + 1 ≤ 2 ^ (64 - n) := Nat.mod_lt _ (Nat.two_pow_pos _)
  have hs : 2 ^ n * (x % 2 ^ (64 - n) + 1) ≤ 2 ^ n * 2 ^ (64 - n) := Nat.mul_le_mul (Nat.le_refl _) hr
  rw [Nat.mul_add, h64] at hs
  rw [hm]; omega

theorem mod_lt64 (x : Nat) : x % 18446744073709551616 < 18446744073709551616 := Nat.mod_lt _ (by decide)

theorem sipRound_ok (s : S4) (h : s.ok) : (sipRound s).ok := by
  obtain ⟨ha, hb, hc, hd⟩ := h
  unfold sipRound S4.ok
  dsimp only
  have hb1 := xor_lt (rotl_lt 13 s.b (by omega) hb) (mod_lt64 (s.a + s.b))
  have hd1 := xor_lt (rotl_lt 16 s.d (by omega) hd) (mod_lt64 (s.c + s.d))
  have ha2 := rotl_lt 32 _ (by omega) (mod_lt64 (s.a + s.b))
  generalize rotl 13 s.b ^^^ (s.a + s.b) % 18446744073709551616 = b1 at *
  generalize rotl 16 s.d ^^^ (s.c + s.d) % 18446744073709551616 = d1 at *
  generalize rotl 32 ((s.a + s.b) % 18446744073709551616) = a2 at *
  generalize (s.c + s.d) % 18446744073709551616 = c1 at *
  exact ⟨mod_lt64 _, xor_lt (rotl_lt _ _ (by omega) hb1) (mod_lt64 _), rotl_lt _ _ (by omega) (mod_lt64 _), xor_lt (rotl_lt _ _ (by omega) hd1) (mod_lt64 _)⟩

theorem sipRounds_ok (n : Nat) (s : S4) (h : s.ok) : (sipRounds n s).ok := iter_ok sipRound S4.ok sipRound_ok n s h

theorem sipTake_ok (s : S4) (m : Nat) (h : s.ok) (hm : m < 18446744073709551616) : (sipTake s m).ok := by
  obtain ⟨ha, hb, hc, hd⟩ := h
  have h2 := sipRounds_ok 2 ⟨s.a, s.b, s.c, s.d ^^^ m⟩ ⟨ha, hb, hc, xor_lt hd hm⟩
  unfold sipTake
  generalize sipRounds 2 ⟨s.a, s.b, s.c, s.d ^^^ m⟩ = t at *
  exact ⟨xor_lt h2.1 hm, h2.2.1, h2.2.2.1, h2.2.2.2⟩

theorem sipWords_ok (t : ByteArray) (n k : Nat) (s : S4) (h : s.ok) : (sipWords t n k s).ok :=
  eights_ok (fun k s => sipTake s (word8 t k)) S4.ok (fun _ x h => sipTake_ok x _ h (word8_lt _ _)) n k s h

theorem sipStart_ok (key : ByteArray) : (sipStart key).ok :=
  ⟨xor_lt (word8_lt _ _) (by decide), xor_lt (word8_lt _ _) (by decide), xor_lt (word8_lt _ _) (by decide), xor_lt (word8_lt _ _) (by decide)⟩

theorem lowFirst_beyond (t : ByteArray) : ∀ n k, t.size ≤ k → lowFirst t k n = 0
  | 0, _, _ => rfl
  | n + 1, k, h => by
    rw [lowFirst, lowFirst_beyond t n (k + 1) (by omega)]
    simp [byteAt, Nat.not_lt.2 h]

theorem lowFirst_short (t : ByteArray) : ∀ n k r, t.size ≤ k + r → lowFirst t k (r + n) = lowFirst t k r
  | n, k, 0, h => by rw [Nat.zero_add, lowFirst_beyond t n k (by omega)]; rfl
  | n, k, r + 1, h => by
    rw [show r + 1 + n = (r + n) + 1 by omega, lowFirst, lowFirst, lowFirst_short t n (k + 1) r (by omega)]

theorem word8_last_lt (t : ByteArray) (k : Nat) (h : t.size ≤ k + 7) : word8 t k < 72057594037927936 := by
  have := lowFirst_lt t 7 k
  rw [word8, show (8 : Nat) = 7 + 1 from rfl, lowFirst_short t 1 k 7 h]
  exact this

theorem sipEnd_lt (s : S4) (h : s.ok) : sipEnd s < 18446744073709551616 := by
  obtain ⟨ha, hb, hc, hd⟩ := h
  have h4 := sipRounds_ok 4 ⟨s.a, s.b, s.c ^^^ 255, s.d⟩ ⟨ha, hb, xor_lt hc (by decide), hd⟩
  unfold sipEnd
  generalize sipRounds 4 ⟨s.a, s.b, s.c ^^^ 255, s.d⟩ = t at *
  exact xor_lt (xor_lt (xor_lt h4.1 h4.2.1) h4.2.2.1) h4.2.2.2

theorem sipHash_lt (key t : ByteArray) : sipHash key t < 18446744073709551616 := by
  refine sipEnd_lt _ (sipTake_ok _ _ (sipWords_ok _ _ _ _ (sipStart_ok _)) ?_)
  have := word8_last_lt t (8 * (t.size / 8)) (by omega)
  omega

/-- Two halves as a word. -/
theorem xor_halves (a b c d : Nat) (hb : b < 4294967296) (hd : d < 4294967296) :
    (a * 4294967296 + b) ^^^ (c * 4294967296 + d) = (a ^^^ c) * 4294967296 + (b ^^^ d) := by
  have hb' : b < 2 ^ 32 := by rw [show (2 : Nat) ^ 32 = 4294967296 by decide]; exact hb
  have hd' : d < 2 ^ 32 := by rw [show (2 : Nat) ^ 32 = 4294967296 by decide]; exact hd
  have hx : b ^^^ d < 2 ^ 32 := Nat.xor_lt_two_pow hb' hd'
  rw [show (4294967296 : Nat) = 2 ^ 32 by decide]
  generalize 32 = k at *
  apply Nat.eq_of_testBit_eq
  intro i
  rw [Nat.mul_comm a, Nat.mul_comm c, Nat.mul_comm (a ^^^ c)]
  rw [Nat.testBit_xor, Nat.testBit_two_pow_mul_add _ hb', Nat.testBit_two_pow_mul_add _ hd', Nat.testBit_two_pow_mul_add _ hx]
  split <;> rw [Nat.testBit_xor]

end Fl

namespace Fl

theorem byteAt_eq (s : ByteArray) (i : Nat) (h : i < s.size) : s[i].toNat = byteAt s i := by simp [byteAt, h]

/-- Two bytes as a number, the high one first. -/
def be16 (s : ByteArray) (k : Nat) : Nat := 256 * byteAt s k + byteAt s (k + 1)

theorem be16_lt (s : ByteArray) (k : Nat) : be16 s k < 65536 := by
  have := byteAt_lt s k; have := byteAt_lt s (k + 1); unfold be16; omega

/-- The sum of the first n words. -/
def wsum (s : ByteArray) : Nat → Nat
  | 0 => 0
  | n + 1 => wsum s n + be16 s (2 * n)

theorem wsum_le (s : ByteArray) : ∀ n, wsum s n ≤ 65535 * n
  | 0 => by simp [wsum]
  | n + 1 => by have := wsum_le s n; have := be16_lt s (2 * n); rw [wsum]; omega

/-- Carries added in again. -/
def fold16 (n : Nat) : Nat := if n = 0 then 0 else (n - 1) % 65535 + 1

theorem fold16_small (n : Nat) (h : n ≤ 65535) : fold16 n = n := by unfold fold16; split <;> omega
theorem fold16_step (n : Nat) (h : 65535 < n) : fold16 (n / 65536 + n % 65536) = fold16 n := by unfold fold16; split <;> split <;> omega
theorem fold16_full (n : Nat) : fold16 n = 65535 ↔ n ≠ 0 ∧ n % 65535 = 0 := by unfold fold16; split <;> omega
theorem fold16_le (n : Nat) : fold16 n ≤ 65535 := by unfold fold16; split <;> omega

def portsOf (rest : ByteArray) (p : Nat) : ByteArray := if (p = 6 ∨ p = 17) ∧ 4 ≤ rest.size then rest.extract 0 4 else ⟨#[]⟩

theorem portsOf_size (r : ByteArray) (p : Nat) : (portsOf r p).size ≤ 4 := by
  unfold portsOf; split
  · rw [ByteArray.size_extract]; omega
  · show 0 ≤ 4; omega

def furtherB (next : Nat) : Bool := next == 0 || next == 43 || next == 44 || next == 60

/-- How long a further header is; 0: it does not fit. -/
def furtherLen (rest : ByteArray) (kind : Nat) : Nat :=
  if rest.size < 8 then 0 else
    let size := if kind = 44 then 8 else 8 * (byteAt rest 1 + 1)
    if rest.size < size then 0 else size

/-- Further headers, f of them at the most: what is left, the next header, whether there was no fragment's. -/
def chain : Nat → ByteArray → Nat → Bool → Option (ByteArray × Nat × Bool)
  | 0, rest, next, whole => if furtherB next then none else some (rest, next, whole)
  | f + 1, rest, next, whole =>
    if furtherB next then
      if furtherLen rest next = 0 then none else chain f (rest.extract (furtherLen rest next) rest.size) (byteAt rest 0) (whole && next != 44)
    else some (rest, next, whole)

def v4B (s : ByteArray) : Bool :=
  decide (20 ≤ s.size ∧ byteAt s 0 / 16 = 4 ∧ 20 ≤ byteAt s 0 % 16 * 4 ∧ byteAt s 0 % 16 * 4 ≤ be16 s 2 ∧ be16 s 2 ≤ s.size ∧ fold16 (wsum s (byteAt s 0 % 16 * 4 / 2)) = 65535)

def text4 (s : ByteArray) : ByteArray :=
  (⟨#[4]⟩ ++ s.extract 12 20 ++ s.extract 9 10) ++
    (if be16 s 6 % 16384 = 0 then portsOf (s.extract (byteAt s 0 % 16 * 4) (be16 s 2)) (byteAt s 9) else ⟨#[]⟩)

def flow6 (s : ByteArray) : Option ByteArray :=
  if 40 ≤ s.size ∧ byteAt s 0 / 16 = 6 ∧ 40 + be16 s 4 ≤ s.size then
    match chain 4 (s.extract 40 (40 + be16 s 4)) (byteAt s 6) true with
    | none => none
    | some (rest, next, whole) => some ((⟨#[6]⟩ ++ s.extract 8 40 ++ ⟨#[UInt8.ofNat next]⟩) ++ (if whole then portsOf rest next else ⟨#[]⟩))
  else none

/-- The first n bytes of a text, filled up with noughts. -/
def padded (s : ByteArray) : Nat → ByteArray
  | 0 => ⟨#[]⟩
  | n + 1 => padded s n ++ ⟨#[UInt8.ofNat (byteAt s n)]⟩

def flowOf (s : ByteArray) : ByteArray :=
  if v4B s then text4 s else match flow6 s with
    | some t => t
    | none => ⟨#[0]⟩ ++ padded s 16

/-- As what a frame is read. -/
def versionOf (s : ByteArray) : Nat := if v4B s then 4 else if (flow6 s).isSome then 6 else 0

theorem byteAt_extract (s : ByteArray) (a b i : Nat) (hb : b ≤ s.size) (hi : a + i < b) : byteAt (s.extract a b) i = byteAt s (a + i) := by
  have h1 : i < (s.extract a b).size := by rw [ByteArray.size_extract]; omega
  have h2 : a + i < s.size := by omega
  simp only [byteAt, h1, h2, dif_pos]
  rw [ByteArray.getElem_extract]

theorem be16_extract (s : ByteArray) (b i : Nat) (hb : b ≤ s.size) (hi : i + 1 < b) : be16 (s.extract 0 b) i = be16 s i := by
  unfold be16; rw [byteAt_extract s 0 b i hb (by omega), byteAt_extract s 0 b (i + 1) hb (by omega)]; simp

theorem wsum_extract (s : ByteArray) (b : Nat) (hb : b ≤ s.size) : ∀ n, 2 * n ≤ b → wsum (s.extract 0 b) n = wsum s n
  | 0, _ => rfl
  | n + 1, h => by rw [wsum, wsum, wsum_extract s b hb n (by omega), be16_extract s b _ hb (by omega)]

theorem extract_one (s : ByteArray) (k : Nat) (h : k < s.size) : s.extract k (k + 1) = ⟨#[UInt8.ofNat (byteAt s k)]⟩ := by
  have hb : UInt8.ofNat (byteAt s k) = s[k] := by rw [← byteAt_eq s k h]; simp
  rw [hb]
  apply ByteArray.ext_getElem
  · rw [ByteArray.size_extract]; show _ = 1; omega
  · intro i h1 h2
    have : i = 0 := by
      have : i < 1 := h2
      omega
    subst this
    rw [ByteArray.getElem_extract]
    rfl

/-- What reading an IPv6 frame comes to. -/
def end6 (s t : ByteArray) (b : Bool) (R : Option (ByteArray × Nat × Bool)) : Prop :=
  match R with
  | some (rest, next, whole) => (⟨#[6]⟩ ++ s.extract 8 40 ++ ⟨#[UInt8.ofNat next]⟩) ++ (if whole then portsOf rest next else ⟨#[]⟩) = t ∧ b = true
  | none => t = ⟨#[]⟩ ∧ b = false

def is6 (s t : ByteArray) (b : Bool) : Prop :=
  match flow6 s with
  | some u => u = t ∧ b = true
  | none => t = ⟨#[]⟩ ∧ b = false

theorem is6_end (s t : ByteArray) (b : Bool) (h : is6 s t b) (h1 : 40 ≤ s.size ∧ byteAt s 0 / 16 = 6 ∧ 40 + be16 s 4 ≤ s.size) : end6 s t b (chain 4 (s.extract 40 (40 + be16 s 4)) (byteAt s 6) true) := by
  unfold is6 flow6 at h
  rw [if_pos h1] at h
  unfold end6
  generalize chain 4 (s.extract 40 (40 + be16 s 4)) (byteAt s 6) true = R at h ⊢
  rcases R with _ | ⟨rest, next, whole⟩
  · exact h
  · exact h

theorem is6_none (s t : ByteArray) (b : Bool) (h : is6 s t b) (h1 : ¬ (40 ≤ s.size ∧ byteAt s 0 / 16 = 6 ∧ 40 + be16 s 4 ≤ s.size)) : t = ⟨#[]⟩ ∧ b = false := by
  unfold is6 flow6 at h
  rw [if_neg h1] at h
  exact h

theorem padded_size (s : ByteArray) : ∀ n, (padded s n).size = n
  | 0 => rfl
  | n + 1 => by rw [padded, ByteArray.size_append, padded_size s n]; rfl

end Fl

namespace Fl

/-- A byte put into a text. -/
def put (s : ByteArray) (i v : Nat) : ByteArray := ⟨s.data.setIfInBounds i (UInt8.ofNat v)⟩

theorem put_size (s : ByteArray) (i v : Nat) : (put s i v).size = s.size := by
  show (s.data.setIfInBounds i _).size = s.data.size
  simp

theorem byteAt_data (s : ByteArray) (i : Nat) : byteAt s i = (s.data[i]?.map UInt8.toNat).getD 0 := by
  unfold byteAt
  by_cases h : i < s.size
  · have h' : i < s.data.size := h
    rw [dif_pos h, Array.getElem?_eq_getElem h']; rfl
  · have h' : ¬ i < s.data.size := h
    rw [dif_neg h, Array.getElem?_eq_none (by omega)]; rfl

theorem byteAt_put (s : ByteArray) (i v j : Nat) (hv : v < 256) (hi : i < s.size) : byteAt (put s i v) j = if j = i then v else byteAt s j := by
  rw [byteAt_data, byteAt_data]
  show ((s.data.setIfInBounds i _)[j]?.map _).getD 0 = _
  rw [Array.getElem?_setIfInBounds]
  have hi' : i < s.data.size := hi
  by_cases e : j = i
  · subst e
    rw [if_pos rfl, if_pos rfl, if_pos hi']
    simp
    omega
  · rw [if_neg (fun h => e h.symm), if_neg e]

theorem bytes_ext (s t : ByteArray) (hs : s.size = t.size) (h : ∀ i, i < s.size → byteAt s i = byteAt t i) : s = t := by
  apply ByteArray.ext_getElem hs
  intro i h1 h2
  have := h i h1
  rw [← byteAt_eq s i h1, ← byteAt_eq t i h2] at this
  exact UInt8.toNat_inj.1 this

/-- The header's bytes ahead of the new checksum. -/
def unsummed (s : ByteArray) : ByteArray := put (put (put s 1 (byteAt s 1 ||| 3)) 10 0) 11 0

/-- What is left for the checksum. -/
def restOf (s : ByteArray) : Nat := 65535 - fold16 (wsum (unsummed s) (byteAt s 0 % 16 * 4 / 2))

/-- A frame of IPv4, marked. -/
def mark4 (s : ByteArray) : ByteArray := put (put (unsummed s) 10 (restOf s / 256)) 11 (restOf s % 256)

/-- A frame of IPv6, marked. -/
def mark6 (s : ByteArray) : ByteArray := put s 1 (byteAt s 1 ||| 48)

/-- Can it be marked? -/
def canB (s : ByteArray) : Bool :=
  if versionOf s = 4 then (byteAt s 1 % 4 == 1 || byteAt s 1 % 4 == 2)
  else if versionOf s = 6 then (byteAt s 1 / 16 % 4 == 1 || byteAt s 1 / 16 % 4 == 2) else false

def markOf (s : ByteArray) : ByteArray := if versionOf s = 4 then mark4 s else mark6 s

theorem markOf_size (s : ByteArray) : (markOf s).size = s.size := by
  unfold markOf
  split <;> simp only [mark4, mark6, unsummed, put_size]

end Fl

namespace Fl

/-- The high and the low half of a word. -/
def hi32 (x : Nat) : Nat := x / 4294967296
def lo32 (x : Nat) : Nat := x % 4294967296

theorem hi32_lt (x : Nat) (h : x < 18446744073709551616) : hi32 x < 4294967296 := by unfold hi32; omega
theorem lo32_lt (x : Nat) : lo32 x < 4294967296 := Nat.mod_lt _ (by decide)
theorem halves (x : Nat) : x = hi32 x * 4294967296 + lo32 x := by unfold hi32 lo32; omega
theorem hi32_of (x h l : Nat) (hl : l < 4294967296) (e : x = h * 4294967296 + l) : hi32 x = h := by unfold hi32; omega
theorem lo32_of (x h l : Nat) (hl : l < 4294967296) (e : x = h * 4294967296 + l) : lo32 x = l := by unfold lo32; omega

theorem plus_hi (x y : Nat) : (hi32 x + hi32 y + (lo32 x + lo32 y) / 4294967296) % 4294967296 = hi32 ((x + y) % 18446744073709551616) := by
  unfold hi32 lo32; omega
theorem plus_lo (x y : Nat) : (lo32 x + lo32 y) % 4294967296 = lo32 ((x + y) % 18446744073709551616) := by
  unfold lo32; omega

theorem mixed_halves (x y : Nat) : hi32 (x ^^^ y) = hi32 x ^^^ hi32 y ∧ lo32 (x ^^^ y) = lo32 x ^^^ lo32 y := by
  have h : x ^^^ y = (hi32 x ^^^ hi32 y) * 4294967296 + (lo32 x ^^^ lo32 y) := by
    conv => lhs; rw [halves x, halves y]
    rw [xor_halves _ _ _ _ (lo32_lt x) (lo32_lt y)]
  have hl : lo32 x ^^^ lo32 y < 4294967296 := by
    have := Nat.xor_lt_two_pow (x := lo32 x) (y := lo32 y) (n := 32) (by rw [show (2 : Nat) ^ 32 = 4294967296 by decide]; exact lo32_lt x) (by rw [show (2 : Nat) ^ 32 = 4294967296 by decide]; exact lo32_lt y)
    rw [show (2 : Nat) ^ 32 = 4294967296 by decide] at this
    exact this
  exact ⟨hi32_of _ _ _ hl h, lo32_of _ _ _ hl h⟩

theorem rot13 (x : Nat) (hx : x < 18446744073709551616) : hi32 (rotl 13 x) = hi32 x * 8192 % 4294967296 + lo32 x * 8192 / 4294967296 ∧ lo32 (rotl 13 x) = lo32 x * 8192 % 4294967296 + hi32 x * 8192 / 4294967296 := by
  have e : rotl 13 x = x * 8192 % 18446744073709551616 + x / 2251799813685248 := by unfold rotl; rw [show (2 : Nat) ^ 13 = 8192 by decide, show (2 : Nat) ^ (64 - 13) = 2251799813685248 by decide]
  obtain ⟨a, b, c, d, ha, hb, hc, hd, ex⟩ : ∃ a b c d, a < 8192 ∧ b < 524288 ∧ c < 8192 ∧ d < 524288 ∧ x = (a * 524288 + b) * 4294967296 + (c * 524288 + d) :=
    ⟨x / 4294967296 / 524288, x / 4294967296 % 524288, x % 4294967296 / 524288, x % 4294967296 % 524288, by omega, by omega, by omega, by omega, by omega⟩
  have b1 : hi32 x = a * 524288 + b := hi32_of x _ _ (by omega) ex
  have b2 : lo32 x = c * 524288 + d := lo32_of x _ _ (by omega) ex
  have a1 : x * 8192 % 18446744073709551616 = (b * 8192 + c) * 4294967296 + d * 8192 := by rw [ex]; omega
  have a2 : x / 2251799813685248 = a := by rw [ex]; omega
  rw [e, a1, a2, b1, b2, hi32_of _ (b * 8192 + c) (d * 8192 + a) (by omega) (by omega), lo32_of _ (b * 8192 + c) (d * 8192 + a) (by omega) (by omega)]
  constructor <;> omega

theorem rot16 (x : Nat) (hx : x < 18446744073709551616) : hi32 (rotl 16 x) = hi32 x * 65536 % 4294967296 + lo32 x * 65536 / 4294967296 ∧ lo32 (rotl 16 x) = lo32 x * 65536 % 4294967296 + hi32 x * 65536 / 4294967296 := by
  have e : rotl 16 x = x * 65536 % 18446744073709551616 + x / 281474976710656 := by unfold rotl; rw [show (2 : Nat) ^ 16 = 65536 by decide, show (2 : Nat) ^ (64 - 16) = 281474976710656 by decide]
  obtain ⟨a, b, c, d, ha, hb, hc, hd, ex⟩ : ∃ a b c d, a < 65536 ∧ b < 65536 ∧ c < 65536 ∧ d < 65536 ∧ x = (a * 65536 + b) * 4294967296 + (c * 65536 + d) :=
    ⟨x / 4294967296 / 65536, x / 4294967296 % 65536, x % 4294967296 / 65536, x % 4294967296 % 65536, by omega, by omega, by omega, by omega, by omega⟩
  have b1 : hi32 x = a * 65536 + b := hi32_of x _ _ (by omega) ex
  have b2 : lo32 x = c * 65536 + d := lo32_of x _ _ (by omega) ex
  have a1 : x * 65536 % 18446744073709551616 = (b * 65536 + c) * 4294967296 + d * 65536 := by rw [ex]; omega
  have a2 : x / 281474976710656 = a := by rw [ex]; omega
  rw [e, a1, a2, b1, b2, hi32_of _ (b * 65536 + c) (d * 65536 + a) (by omega) (by omega), lo32_of _ (b * 65536 + c) (d * 65536 + a) (by omega) (by omega)]
  constructor <;> omega

theorem rot17 (x : Nat) (hx : x < 18446744073709551616) : hi32 (rotl 17 x) = hi32 x * 131072 % 4294967296 + lo32 x * 131072 / 4294967296 ∧ lo32 (rotl 17 x) = lo32 x * 131072 % 4294967296 + hi32 x * 131072 / 4294967296 := by
  have e : rotl 17 x = x * 131072 % 18446744073709551616 + x / 140737488355328 := by unfold rotl; rw [show (2 : Nat) ^ 17 = 131072 by decide, show (2 : Nat) ^ (64 - 17) = 140737488355328 by decide]
  obtain ⟨a, b, c, d, ha, hb, hc, hd, ex⟩ : ∃ a b c d, a < 131072 ∧ b < 32768 ∧ c < 131072 ∧ d < 32768 ∧ x = (a * 32768 + b) * 4294967296 + (c * 32768 + d) :=
    ⟨x / 4294967296 / 32768, x / 4294967296 % 32768, x % 4294967296 / 32768, x % 4294967296 % 32768, by omega, by omega, by omega, by omega, by omega⟩
  have b1 : hi32 x = a * 32768 + b := hi32_of x _ _ (by omega) ex
  have b2 : lo32 x = c * 32768 + d := lo32_of x _ _ (by omega) ex
  have a1 : x * 131072 % 18446744073709551616 = (b * 131072 + c) * 4294967296 + d * 131072 := by rw [ex]; omega
  have a2 : x / 140737488355328 = a := by rw [ex]; omega
  rw [e, a1, a2, b1, b2, hi32_of _ (b * 131072 + c) (d * 131072 + a) (by omega) (by omega), lo32_of _ (b * 131072 + c) (d * 131072 + a) (by omega) (by omega)]
  constructor <;> omega

theorem rot21 (x : Nat) (hx : x < 18446744073709551616) : hi32 (rotl 21 x) = hi32 x * 2097152 % 4294967296 + lo32 x * 2097152 / 4294967296 ∧ lo32 (rotl 21 x) = lo32 x * 2097152 % 4294967296 + hi32 x * 2097152 / 4294967296 := by
  have e : rotl 21 x = x * 2097152 % 18446744073709551616 + x / 8796093022208 := by unfold rotl; rw [show (2 : Nat) ^ 21 = 2097152 by decide, show (2 : Nat) ^ (64 - 21) = 8796093022208 by decide]
  obtain ⟨a, b, c, d, ha, hb, hc, hd, ex⟩ : ∃ a b c d, a < 2097152 ∧ b < 2048 ∧ c < 2097152 ∧ d < 2048 ∧ x = (a * 2048 + b) * 4294967296 + (c * 2048 + d) :=
    ⟨x / 4294967296 / 2048, x / 4294967296 % 2048, x % 4294967296 / 2048, x % 4294967296 % 2048, by omega, by omega, by omega, by omega, by omega⟩
  have b1 : hi32 x = a * 2048 + b := hi32_of x _ _ (by omega) ex
  have b2 : lo32 x = c * 2048 + d := lo32_of x _ _ (by omega) ex
  have a1 : x * 2097152 % 18446744073709551616 = (b * 2097152 + c) * 4294967296 + d * 2097152 := by rw [ex]; omega
  have a2 : x / 8796093022208 = a := by rw [ex]; omega
  rw [e, a1, a2, b1, b2, hi32_of _ (b * 2097152 + c) (d * 2097152 + a) (by omega) (by omega), lo32_of _ (b * 2097152 + c) (d * 2097152 + a) (by omega) (by omega)]
  constructor <;> omega

theorem rot32 (x : Nat) (hx : x < 18446744073709551616) : hi32 (rotl 32 x) = lo32 x ∧ lo32 (rotl 32 x) = hi32 x := by
  have e : rotl 32 x = x * 4294967296 % 18446744073709551616 + x / 4294967296 := by unfold rotl; rw [show (2 : Nat) ^ 32 = 4294967296 by decide]
  rw [e]
  unfold hi32 lo32
  omega

/-- Eight bytes, the low one first, in halves. -/
theorem word8_halves (s : ByteArray) (k : Nat) : hi32 (word8 s k) = lowFirst s (k + 4) 4 ∧ lo32 (word8 s k) = lowFirst s k 4 := by
  have h1 := lowFirst_lt s 4 k
  have e : word8 s k = lowFirst s (k + 4) 4 * 4294967296 + lowFirst s k 4 := by
    simp only [word8, lowFirst, Nat.add_assoc, Nat.reduceAdd]
    omega
  rw [show (256 : Nat) ^ 4 = 4294967296 by decide] at h1
  exact ⟨hi32_of _ _ _ h1 e, lo32_of _ _ _ h1 e⟩

/-- The number that n bytes are, the high one first. -/
def beN (s : ByteArray) : Nat → Nat
  | 0 => 0
  | n + 1 => 256 * beN s n + byteAt s n

theorem beN_lt (s : ByteArray) : ∀ n, beN s n < 256 ^ n
  | 0 => by simp [beN]
  | n + 1 => by have := beN_lt s n; have := byteAt_lt s n; rw [beN, Nat.pow_succ]; omega

theorem beN_two (s : ByteArray) (h : s.size = 2) : beN s s.size = be16 s 0 := by
  rw [h]; simp [beN, be16]

end Fl

/-! A text padded to words, as the other hash takes it. -/
namespace Fl

theorem byteAt_glued (a b : ByteArray) (i : Nat) : byteAt (a ++ b) i = if i < a.size then byteAt a i else byteAt b (i - a.size) := by
  rw [byteAt_data, byteAt_data, byteAt_data]
  have e : (a ++ b).data = a.data ++ b.data := ByteArray.data_append
  rw [e]
  by_cases h : i < a.size
  · rw [if_pos h, Array.getElem?_append_left h]
  · rw [if_neg h, Array.getElem?_append_right (by show a.data.size ≤ i; have : a.size = a.data.size := rfl; omega)]
    rfl

theorem byteAt_single (n : Nat) (hn : n < 256) (i : Nat) : byteAt ⟨#[UInt8.ofNat n]⟩ i = if i = 0 then n else 0 := by
  rw [byteAt_data]
  match i with
  | 0 => simp; omega
  | i + 1 => simp

/-- A text that reads as another, and 0 beyond it. -/
def Reads (t u : ByteArray) : Prop := ∀ i, byteAt u i = byteAt t i

theorem Reads.zero {t u : ByteArray} (h : Reads t u) (hs : t.size ≤ u.size) : Reads t (u ++ ⟨#[0]⟩) := by
  intro i
  rw [byteAt_glued]
  by_cases hi : i < u.size
  · rw [if_pos hi]; exact h i
  · rw [if_neg hi]
    have h0 : byteAt t i = 0 := by simp [byteAt, show ¬ i < t.size by omega]
    have := byteAt_single 0 (by decide) (i - u.size)
    rw [h0]
    simpa using this

theorem lowFirst_same (t u : ByteArray) : ∀ n k, (∀ i, k ≤ i → i < k + n → byteAt u i = byteAt t i) → lowFirst u k n = lowFirst t k n
  | 0, _, _ => rfl
  | n + 1, k, h => by
    rw [lowFirst, lowFirst, h k (by omega) (by omega), lowFirst_same t u n (k + 1) (fun i h1 h2 => h i (by omega) (by omega))]

theorem lowFirst_last (t : ByteArray) : ∀ n k, lowFirst t k (n + 1) = lowFirst t k n + 256 ^ n * byteAt t (k + n)
  | 0, k => by simp [lowFirst]
  | n + 1, k => by
    rw [lowFirst, lowFirst_last t n (k + 1), lowFirst, Nat.pow_succ, show k + 1 + n = k + (n + 1) by omega, Nat.mul_add]
    have : 256 * (256 ^ n * byteAt t (k + (n + 1))) = 256 ^ n * 256 * byteAt t (k + (n + 1)) := by rw [← Nat.mul_assoc, Nat.mul_comm 256]
    omega

theorem eights_last {α : Type} (f : Nat → α → α) : ∀ n k x, eights f (n + 1) k x = f (k + 8 * n) (eights f n k x)
  | 0, k, x => by simp [eights]
  | n + 1, k, x => by
    rw [eights, eights_last f n (k + 8), eights, show k + 8 + 8 * n = k + 8 * (n + 1) by omega]

theorem eights_same {α : Type} (f g : Nat → α → α) : ∀ n k x, (∀ i, k ≤ i → i < k + 8 * n → ∀ y, f i y = g i y) → eights f n k x = eights g n k x
  | 0, _, _, _ => rfl
  | n + 1, k, x, h => by
    rw [eights, eights, h k (by omega) (by omega), eights_same f g n (k + 8) _ (fun i h1 h2 => h i (by omega) (by omega))]

/-- The text with its length in the last byte. -/
theorem padded_hash (key t u v : ByteArray) (h : Reads t u) (hs1 : t.size ≤ u.size) (hs2 : u.size ≤ t.size + 7) (h7 : u.size % 8 = 7) (hv : v = u ++ ⟨#[UInt8.ofNat (t.size % 256)]⟩) :
    v.size = 8 * (t.size / 8 + 1) ∧ sipHash key t = sipEnd (sipWords v (t.size / 8 + 1) 0 (sipStart key)) := by
  have hn : t.size % 256 < 256 := Nat.mod_lt _ (by decide)
  have hus : u.size = 8 * (t.size / 8) + 7 := by omega
  have hb : ∀ i, byteAt v i = if i = u.size then t.size % 256 else byteAt t i := by
    intro i
    rw [hv, byteAt_glued]
    by_cases e : i = u.size
    · rw [if_neg (by omega), if_pos e, byteAt_single _ hn, if_pos (by omega)]
    · rw [if_neg e]
      by_cases hi : i < u.size
      · rw [if_pos hi]; exact h i
      · rw [if_neg hi, byteAt_single _ hn, if_neg (by omega)]
        simp [byteAt, show ¬ i < t.size by omega]
  refine ⟨by rw [hv, ByteArray.size_append, hus]; show 8 * (t.size / 8) + 7 + 1 = _; omega, ?_⟩
  have e1 : sipWords v (t.size / 8) 0 (sipStart key) = sipWords t (t.size / 8) 0 (sipStart key) :=
    eights_same _ _ _ _ _ (fun i _ h2 y => by
      have e : word8 v i = word8 t i := lowFirst_same t v 8 i (fun j h3 h4 => by rw [hb, if_neg]; omega)
      show sipTake y (word8 v i) = sipTake y (word8 t i)
      rw [e])
  have e2 : word8 v (8 * (t.size / 8)) = word8 t (8 * (t.size / 8)) + t.size % 256 * 72057594037927936 := by
    unfold word8
    rw [lowFirst_last v 7, lowFirst_last t 7, lowFirst_same t v 7 _ (fun i h1 h2 => by rw [hb, if_neg]; omega), hb, if_pos hus.symm]
    have h0 : byteAt t (8 * (t.size / 8) + 7) = 0 := by simp [byteAt, show ¬ 8 * (t.size / 8) + 7 < t.size by omega]
    rw [h0, Nat.mul_zero, Nat.add_zero, Nat.mul_comm (t.size % 256)]
  have e3 : sipWords v (t.size / 8 + 1) 0 (sipStart key) = sipTake (sipWords v (t.size / 8) 0 (sipStart key)) (word8 v (8 * (t.size / 8))) := by
    have := eights_last (fun k s => sipTake s (word8 v k)) (t.size / 8) 0 (sipStart key)
    rw [Nat.zero_add] at this
    exact this
  rw [e3, e1, e2]
  rfl

end Fl

/-! Numbers as digits to the base 65536, the low one first. -/
namespace Fl

def valTo (d : Nat → Nat) : Nat → Nat
  | 0 => 0
  | n + 1 => valTo d n + d n * 65536 ^ n

theorem valTo_lt (d : Nat → Nat) : ∀ n, (∀ i, i < n → d i < 65536) → valTo d n < 65536 ^ n
  | 0, _ => by simp [valTo]
  | n + 1, h => by
    have h1 := valTo_lt d n (fun i hi => h i (by omega))
    have h2 := h n (by omega)
    have h3 : d n * 65536 ^ n ≤ 65535 * 65536 ^ n := Nat.mul_le_mul_right _ (by omega)
    rw [valTo, Nat.pow_succ]
    omega

theorem valTo_congr (d e : Nat → Nat) : ∀ n, (∀ i, i < n → d i = e i) → valTo d n = valTo e n
  | 0, _ => rfl
  | n + 1, h => by rw [valTo, valTo, valTo_congr d e n (fun i hi => h i (by omega)), h n (by omega)]

theorem valTo_ge (d : Nat → Nat) (k : Nat) : ∀ n, k < n → d k * 65536 ^ k ≤ valTo d n
  | 0, h => by omega
  | n + 1, h => by
    rw [valTo]
    by_cases e : k = n
    · subst e; omega
    · have := valTo_ge d k n (by omega); omega

def dSet (d : Nat → Nat) (k x : Nat) : Nat → Nat := fun i => if i = k then x else d i

theorem valTo_set (d : Nat → Nat) (k x : Nat) : ∀ n, k < n → valTo (dSet d k x) n + d k * 65536 ^ k = valTo d n + x * 65536 ^ k
  | 0, h => by omega
  | n + 1, h => by
    rw [valTo, valTo]
    by_cases e : k = n
    · subst e
      have h1 : valTo (dSet d k x) k = valTo d k := valTo_congr _ _ _ (fun i hi => by unfold dSet; rw [if_neg (by omega)])
      have h2 : dSet d k x k = x := if_pos rfl
      rw [h1, h2]; omega
    · have h1 := valTo_set d k x n (by omega)
      have h2 : dSet d k x n = d n := if_neg (by omega)
      rw [h2]; omega

/-- What is above a digit's room goes on to the next. -/
theorem valTo_carry (d : Nat → Nat) (k n : Nat) (hk : k + 1 < n) : valTo (dSet (dSet d (k + 1) (d (k + 1) + d k / 65536)) k (d k % 65536)) n = valTo d n := by
  have h1 := valTo_set d (k + 1) (d (k + 1) + d k / 65536) n hk
  have h2 := valTo_set (dSet d (k + 1) (d (k + 1) + d k / 65536)) k (d k % 65536) n (by omega)
  have h3 : dSet d (k + 1) (d (k + 1) + d k / 65536) k = d k := if_neg (by omega)
  rw [h3] at h2
  have h4 : d k = d k / 65536 * 65536 + d k % 65536 := by omega
  have h5 : d k * 65536 ^ k = d k / 65536 * 65536 ^ (k + 1) + d k % 65536 * 65536 ^ k := by
    rw [Nat.pow_succ, ← Nat.mul_assoc, Nat.mul_right_comm, ← Nat.add_mul, ← h4]
  rw [Nat.add_mul] at h1
  omega

theorem valTo_less (a b : Nat → Nat) (i : Nat) (ha : ∀ j, j < i → a j < 65536) (h : a i < b i) : ∀ n, i < n → (∀ m, i < m → m < n → a m = b m) → valTo a n < valTo b n
  | 0, hn, _ => by omega
  | n + 1, hn, he => by
    rw [valTo, valTo]
    by_cases e : i = n
    · subst e
      have h1 := valTo_lt a i ha
      have h2 : (a i + 1) * 65536 ^ i ≤ b i * 65536 ^ i := Nat.mul_le_mul_right _ h
      rw [Nat.add_mul] at h2
      omega
    · have := valTo_less a b i ha h n (by omega) (fun m h1 h2 => he m h1 (by omega))
      rw [he n (by omega) (by omega)]
      omega

/-- Digits beyond the number are none. -/
theorem valTo_more (d : Nat → Nat) (n : Nat) : ∀ m, (∀ i, n ≤ i → i < n + m → d i = 0) → valTo d (n + m) = valTo d n
  | 0, _ => rfl
  | m + 1, h => by
    rw [← Nat.add_assoc, valTo, valTo_more d n m (fun i h1 h2 => h i h1 (by omega)), h (n + m) (by omega) (by omega)]
    simp

def dig (v : Nat) : Nat → Nat
  | 0 => v % 65536
  | 1 => v / 65536 % 65536
  | 2 => v / 4294967296 % 65536
  | 3 => v / 281474976710656 % 65536
  | _ => 0

theorem dig_lt (v i : Nat) : dig v i < 65536 := by
  unfold dig
  split <;> omega

theorem dig_val (v : Nat) (h : v < 18446744073709551616) : valTo (dig v) 4 = v := by
  simp [valTo, dig]
  omega

/-- One more product of digits. -/
theorem valTo_times (A B a b i j : Nat) : A * B + a * 65536 ^ i * (B + b * 65536 ^ j) = A * B + a * 65536 ^ i * B + a * b * 65536 ^ (i + j) := by
  rw [Nat.mul_add, Nat.pow_add, ← Nat.add_assoc]
  congr 1
  rw [Nat.mul_assoc, Nat.mul_assoc, ← Nat.mul_assoc (65536 ^ i), Nat.mul_comm (65536 ^ i) b, Nat.mul_assoc]

end Fl

/-! Words and laws of the walks that name no number of the translation. -/
namespace Fl
open Go Go.RowKit

/-- A region whose first n operations only read, and whose others stand in one order. -/
theorem wp_region_st {P : Program} {id : Nat} {Q : Exit → Act → World → Prop} {a : Act} {w : World} {l : List Oper} (n : Nat) (hm : P.follows .mixedOrders = true) (hB : Region.lexTailB .any l.toArray n = true)
    (h : wpStill P l.toArray w.drew (fun a' => wpList P l.toArray Q (l.drop n) a' w.drew) (l.take n) a) : (Code.region id l.toArray true).wp P Q a w := wp_region_still_tail n hm hB h

/-- A fact in a box: nothing looks through it. -/
structure Bx (p : Prop) : Prop where
  out : p

theorem ret_int {k : IntKind} {a b : Int} (h : a = b) : Ending.returned (.int k a) = .returned (.int k b) := by rw [h]

theorem ret_eq {a b : Value} (h : a = b) : Ending.returned a = .returned b := by rw [h]

theorem bcell {W w1 : World} (hb : Below W.heap.size W w1) : (∀ b o, b < W.heap.size → w1.cell? ⟨b, o, none⟩ = W.cell? ⟨b, o, none⟩) ∧ (∀ b o, b < W.heap.size → w1.frozen? ⟨b, o, none⟩ = W.frozen? ⟨b, o, none⟩) :=
  ⟨fun b o h => hb.cell (p := ⟨b, o, none⟩) h, fun b o h => hb.frozen (p := ⟨b, o, none⟩) h⟩

theorem wrap_i64_in (n : Nat) (h : n < 9223372036854775808) : IntKind.i64.wrap (n : Int) = n := by
  simp [IntKind.wrap, IntKind.bits, IntKind.signed]; omega
theorem wrap_u64_in (n : Nat) (h : n < 18446744073709551616) : IntKind.u64.wrap (n : Int) = n := by rw [IntKind.wrap_u64]; omega
theorem wrap_u8_in (n : Nat) (h : n < 256) : IntKind.u8.wrap (n : Int) = n := by rw [IntKind.wrap_u8']; omega

theorem i64_and_nat (a b : Nat) (ha : a < 4611686018427387904) (hb : b < 4611686018427387904) : bits .and .i64 (a : Int) (b : Int) = ((a &&& b : Nat) : Int) := by
  have hx : a &&& b < 2 ^ 62 := Nat.and_lt_two_pow _ (by omega)
  show IntKind.i64.wrap ((BitVec.ofInt 64 (a : Int) &&& BitVec.ofInt 64 (b : Int)).toNat : Int) = _
  rw [BitVec.toNat_and, ofInt_u64 a (by omega), ofInt_u64 b (by omega), wrap_i64_in _ (by omega)]
theorem i64_or_nat (a b : Nat) (ha : a < 4611686018427387904) (hb : b < 4611686018427387904) : bits .or .i64 (a : Int) (b : Int) = ((a ||| b : Nat) : Int) := by
  have hx : a ||| b < 2 ^ 62 := Nat.or_lt_two_pow (by omega) (by omega)
  show IntKind.i64.wrap ((BitVec.ofInt 64 (a : Int) ||| BitVec.ofInt 64 (b : Int)).toNat : Int) = _
  rw [BitVec.toNat_or, ofInt_u64 a (by omega), ofInt_u64 b (by omega), wrap_i64_in _ (by omega)]
theorem i64_xor_nat (a b : Nat) (ha : a < 4611686018427387904) (hb : b < 4611686018427387904) : bits .xor .i64 (a : Int) (b : Int) = ((a ^^^ b : Nat) : Int) := by
  have hx : a ^^^ b < 2 ^ 62 := Nat.xor_lt_two_pow (by omega) (by omega)
  show IntKind.i64.wrap ((BitVec.ofInt 64 (a : Int) ^^^ BitVec.ofInt 64 (b : Int)).toNat : Int) = _
  rw [BitVec.toNat_xor, ofInt_u64 a (by omega), ofInt_u64 b (by omega), wrap_i64_in _ (by omega)]

theorem slice_run (P : Program) (T : TypeId) (hT : P.underlying T = some .string) (s : ByteArray) (i j : Int) (a b : Nat) (hi : i = a) (hj : j = b) (hab : a ≤ b) (hb : b ≤ s.size) :
    ∀ w : World, (Instr.slice T (.string s) (some (.int .i64 i)) (some (.int .i64 j)) none).run P w = .ok (.string (s.extract a b)) w := by
  intro w
  subst hi hj
  rw [run_slice_string w T s _ _ _ _ hT (by omega) (by omega) (by omega)]
  simp

theorem slice_run_l (P : Program) (T : TypeId) (hT : P.underlying T = some .string) (s : ByteArray) (i : Int) (a : Nat) (hi : i = a) (hb : a ≤ s.size) :
    ∀ w : World, (Instr.slice T (.string s) (some (.int .i64 i)) none none).run P w = .ok (.string (s.extract a s.size)) w := by
  intro w
  subst hi
  rw [run_slice_string_l w T s hT _ _ (by omega) (by omega)]
  simp

theorem app_nil (a : ByteArray) : a ++ ⟨#[]⟩ = a := by
  apply ByteArray.ext; simp

theorem mk_cat (P : Program) (a b : ByteArray) (ha : a.size ≤ 100000) (hb : b.size ≤ 100000) : ∃ c : ByteArray, c.size = a.size + b.size ∧ (∀ w : World, (Op.stringOp .add a b).run P w = .ok (.string c) w) ∧ Bx (a ++ b = c) :=
  ⟨a ++ b, by simp, fun w => run_string_add_sum w a b (by omega), ⟨rfl⟩⟩

theorem _root_.Go.RowKit.Below.drewN {B : Nat} {a w : World} (h : Below B a w) (n : Nat) : Below B a (w.drewN n) := ⟨h.os, h.tape, h.output, h.size, h.block⟩

/-- A word turned, as the walk writes it. -/
theorem turned_eq (x n : Nat) (hx : x < 18446744073709551616) (hn : n ≤ 64) :
    bits .or .u64 (IntKind.u64.wrap ((x : Int) * 2 ^ n)) ((x : Int) / 2 ^ (64 - n)) = ((Fl.rotl n x : Nat) : Int) := by
  have h64 : 2 ^ n * 2 ^ (64 - n) = 18446744073709551616 := by rw [← Nat.pow_add, show n + (64 - n) = 64 by omega]
  have hq : x / 2 ^ (64 - n) < 2 ^ n := Nat.div_lt_of_lt_mul (by rw [Nat.mul_comm, h64]; exact hx)
  have e1 : IntKind.u64.wrap ((x : Int) * 2 ^ n) = ((x * 2 ^ n % 18446744073709551616 : Nat) : Int) := by
    rw [IntKind.wrap_u64]; simp
  have e2 : ((x : Int) / 2 ^ (64 - n)) = ((x / 2 ^ (64 - n) : Nat) : Int) := by simp
  rw [e1, e2, u64_or_nat _ _ (Nat.mod_lt _ (by decide)) (Nat.lt_of_le_of_lt (Nat.div_le_self _ _) hx), nat_join n _ _ ?_ hq]
  · rfl
  · have hm : x * 2 ^ n % 18446744073709551616 = 2 ^ n * (x % 2 ^ (64 - n)) := by
      rw [← h64, Nat.mul_comm x, Nat.mul_mod_mul_left]
    rw [hm]; exact Nat.mul_mod_right _ _

theorem xor64 (x y : Nat) (hx : x < 18446744073709551616) (hy : y < 18446744073709551616) : bits .xor .u64 (x : Int) (y : Int) = ((x ^^^ y : Nat) : Int) := u64_xor_nat x y hx hy

theorem add64 (x y : Nat) : IntKind.u64.wrap ((x : Int) + (y : Int)) = (((x + y) % 18446744073709551616 : Nat) : Int) := by
  rw [IntKind.wrap_u64]; simp

theorem mk_add (x y : Nat) : ∃ z : Nat, z < 18446744073709551616 ∧ IntKind.u64.wrap ((x : Int) + (y : Int)) = (z : Int) ∧ Bx (z = (x + y) % 18446744073709551616) :=
  ⟨_, Nat.mod_lt _ (by decide), add64 x y, ⟨rfl⟩⟩
theorem mk_xor (x y : Nat) (hx : x < 18446744073709551616) (hy : y < 18446744073709551616) : ∃ z : Nat, z < 18446744073709551616 ∧ bits .xor .u64 (x : Int) (y : Int) = (z : Int) ∧ Bx (z = x ^^^ y) :=
  ⟨_, xor_lt hx hy, xor64 x y hx hy, ⟨rfl⟩⟩
theorem mk_rot (n x : Nat) (hn : n ≤ 64) (hx : x < 18446744073709551616) : ∃ z : Nat, z < 18446744073709551616 ∧ Bx (z = rotl n x) :=
  ⟨_, rotl_lt n x hn hx, ⟨rfl⟩⟩

/-- Below a mark all is kept but for one block. -/
structure Only (b : Nat) (w w' : World) : Prop where
  os : w'.os = w.os
  tape : w'.tape = w.tape
  output : w'.output = w.output
  size : w.heap.size ≤ w'.heap.size
  block : ∀ k, k < w.heap.size → k ≠ b → w'.heap[k]? = w.heap[k]?

theorem Only.refl (b : Nat) (w : World) : Only b w w := ⟨rfl, rfl, rfl, Nat.le_refl _, fun _ _ _ => rfl⟩
theorem Only.trans {b : Nat} {u v w : World} (h : Only b u v) (k : Only b v w) : Only b u w :=
  ⟨k.os.trans h.os, k.tape.trans h.tape, k.output.trans h.output, Nat.le_trans h.size k.size, fun i hi hb => (k.block i (Nat.lt_of_lt_of_le hi h.size) hb).trans (h.block i hi hb)⟩
theorem Only.setCell {b : Nat} {u w : World} (h : Only b u w) (i : Nat) (v : Value) : Only b u (w.setCell ⟨b, i, none⟩ v) :=
  h.trans ⟨rfl, rfl, rfl, by simp [World.setCell], fun k _ hb => Below.heap_setCell _ _ _ _ hb⟩
theorem Only.alloc {b : Nat} {u w : World} (h : Only b u w) (o : Obj) : Only b u (w.alloc o) :=
  h.trans ⟨rfl, rfl, rfl, by simp, fun k hk _ => Below.heap_alloc _ _ _ hk⟩
theorem Only.drew {b : Nat} {u w : World} (h : Only b u w) : Only b u w.drew := ⟨h.os, h.tape, h.output, h.size, h.block⟩

end Fl

/-! More laws that name no number of the translation. -/
namespace Fl
open Go Go.RowKit

theorem conv1 (P : Program) (src dst e : TypeId) (hs : P.underlying src = some (.slice e)) (he : P.underlying e = some (.int .u8)) (hd : P.underlying dst = some .string) (n : Nat) (hn : n < 256) (wx : World) :
    (convert src dst (.slice (some ⟨wx.heap.size, 0, none⟩) 1 1)).run P (wx.alloc (.cells #[.int .u8 n] e)) = .ok (.string ⟨#[UInt8.ofNat n]⟩) (wx.alloc (.cells #[.int .u8 n] e)) := by
  refine run_convert_bytes_back (wx.alloc (.cells #[.int .u8 n] e)) src dst e ⟨wx.heap.size, 0, none⟩ 1 [UInt8.ofNat n] hs he hd ?_
  intro j hj
  have : j = 0 := by simpa using hj
  subst this
  have h1 : ((⟨wx.heap.size, 0, none⟩ : Addr).add 0) = ⟨wx.heap.size, 0, none⟩ := rfl
  rw [h1, World.cell?_alloc_at _ _ _ _ rfl]
  simp
  omega

theorem conv1d (P : Program) (src dst e : TypeId) (hs : P.underlying src = some (.slice e)) (he : P.underlying e = some (.int .u8)) (hd : P.underlying dst = some .string) (n : Nat) (hn : n < 256) (wx : World) :
    (convert src dst (.slice (some ⟨wx.heap.size, 0, none⟩) 1 1)).run P (wx.alloc (.cells #[.int .u8 n] e)).drew = .ok (.string ⟨#[UInt8.ofNat n]⟩) (wx.alloc (.cells #[.int .u8 n] e)).drew :=
  conv1 P src dst e hs he hd n hn wx.drew

end Fl

/-! Bytes of strings, for the walk. -/
namespace Fl
open Go Go.RowKit

theorem cell_bytesRow (s : ByteArray) (cap i : Nat) (h : i < s.size) : (bytesRow s cap)[i]? = some (.int .u8 (byteAt s i : Nat)) := by
  have h' : i < s.data.size := h
  unfold bytesRow
  rw [Array.getElem?_append_left (by simpa using h'), Array.getElem?_map, Array.getElem?_eq_getElem h']
  rw [← byteAt_eq s i h]
  rfl

theorem wpList_bytes {P : Program} (w : World) {ops : Array Oper} {rest : List Oper} {o : Oper} {a : Act} {Q : Exit → Act → World → Prop} (hgd : o.guard = none) (src dst : TypeId) (x : Operand)
    (ho : o.op = .convert src dst x) (e : TypeId) (s : ByteArray) (hs : P.underlying src = some .string) (hd : P.underlying dst = some (.slice e)) (he : P.underlying e = some (.int .u8)) (hx : a.eval x = .string s)
    (h : ∀ cap w', (∀ i, i < s.size → w'.cell? ⟨w.heap.size, i, none⟩ = some (.int .u8 (byteAt s i : Nat))) → (∀ i, i < s.size → w'.frozen? ⟨w.heap.size, i, none⟩ = false) → Below w.heap.size w w' → w.heap.size < w'.heap.size → s.size ≤ cap →
      wpList P ops Q rest (a.put o.dst (.slice (some ⟨w.heap.size, 0, none⟩) s.size cap)) w') : wpList P ops Q (o :: rest) a w := by
  refine wpList_plain hgd fun K hK => ?_
  have hrun := run_bytes_of_string (P := P) w src dst e s hs hd he
  unfold Oper.wp
  simp [execOp, ho, hx, hrun, Result.andThen]
  refine hK _ _ (h _ _ ?_ ?_ ?_ ?_ (grownCap_ge w _ _ _))
  · intro i hi
    have := cell_bytesRow s (grownCap w s.size 0 e) i hi
    have hh := heap_alloc_new w.drew (.cells (bytesRow s (grownCap w s.size 0 e)) e ((bytesRow s (grownCap w s.size 0 e)).size, (bytesRow s (grownCap w s.size 0 e)).size + 1))
    have hh2 : w.drew.heap.size = w.heap.size := rfl
    rw [hh2] at hh
    unfold World.cell?
    rw [hh]
    exact this
  · intro i hi
    have hsz : s.size ≤ (bytesRow s (grownCap w s.size 0 e)).size := by
      unfold bytesRow
      show s.data.size ≤ _
      simp
    have hh := heap_alloc_new w.drew (.cells (bytesRow s (grownCap w s.size 0 e)) e ((bytesRow s (grownCap w s.size 0 e)).size, (bytesRow s (grownCap w s.size 0 e)).size + 1))
    have hh2 : w.drew.heap.size = w.heap.size := rfl
    rw [hh2] at hh
    unfold World.frozen?
    rw [hh]
    simp
    omega
  · exact ((Below.refl _ _).drew.alloc (Nat.le_refl _) _)
  · simp

theorem wpList_back {P : Program} (w : World) {ops : Array Oper} {rest : List Oper} {o : Oper} {a : Act} {Q : Exit → Act → World → Prop} (hgd : o.guard = none) (src dst : TypeId) (x : Operand)
    (ho : o.op = .convert src dst x) (e : TypeId) (s : ByteArray) (b off n cap : Nat) (hs : P.underlying src = some (.slice e)) (hd : P.underlying dst = some .string) (he : P.underlying e = some (.int .u8))
    (hx : a.eval x = .slice (some ⟨b, off, none⟩) n cap) (hn : s.size = n) (hc : ∀ i, i < n → w.cell? ⟨b, off + i, none⟩ = some (.int .u8 (byteAt s i : Nat)))
    (h : wpList P ops Q rest (a.put o.dst (.string s)) w) : wpList P ops Q (o :: rest) a w := by
  refine wpList_plain hgd fun K hK => ?_
  have hrun := run_convert_bytes_back (P := P) w src dst e ⟨b, off, none⟩ cap s.data.toList hs he hd (by
    intro j hj
    have hj' : j < s.size := by simpa using hj
    rw [Addr.add_lit, hc j (by omega), ← byteAt_eq s j hj']
    rfl)
  have hl : s.data.toList.length = n := by rw [← hn]; simp
  rw [hl] at hrun
  have he2 : (⟨s.data.toList.toArray⟩ : ByteArray) = s := rfl
  rw [he2] at hrun
  unfold Oper.wp
  simp [execOp, ho, hx, hrun, Result.andThen]
  exact hK _ _ h

/-- A text's bytes lie in a block. -/
structure BytesAt (w : World) (b : Nat) (s : ByteArray) : Prop where
  cell : ∀ i, i < s.size → w.cell? ⟨b, i, none⟩ = some (.int .u8 (byteAt s i : Nat))

theorem BytesAt.put {w : World} {b : Nat} {s : ByteArray} (h : BytesAt w b s) (i v : Nat) (hi : i < s.size) (hv : v < 256) : BytesAt (w.setCell ⟨b, i, none⟩ (.int .u8 v)) b (Fl.put s i v) := by
  refine ⟨fun j hj => ?_⟩
  rw [put_size] at hj
  rw [byteAt_put s i v j hv hi]
  by_cases e : j = i
  · subst e
    rw [if_pos rfl]; exact World.cell?_setCell_same _ _ _ (h.cell j hj)
  · rw [if_neg e]
    exact (World.cell?_setCell_other _ _ _ _ (by intro h; injection h with _ h2; omega)).trans (h.cell j hj)

theorem BytesAt.drew {w : World} {b : Nat} {s : ByteArray} (h : BytesAt w b s) : BytesAt w.drew b s := ⟨h.cell⟩
theorem BytesAt.below {w w' : World} {b : Nat} {s : ByteArray} (h : BytesAt w b s) (hb : Below w.heap.size w w') (hlt : b < w.heap.size) : BytesAt w' b s :=
  ⟨fun i hi => (hb.cell (p := ⟨b, i, none⟩) hlt).trans (h.cell i hi)⟩

end Fl

/-! Whose a block is: each block has a tag; a call may turn the blocks of some tags and make new ones. -/
namespace Fl
open Go Go.RowKit

structure Fr (T : Nat → Prop) (own own' : Nat → Nat) (w w' : World) : Prop where
  os : w'.os = w.os
  tape : w'.tape = w.tape
  output : w'.output = w.output
  size : w.heap.size ≤ w'.heap.size
  old : ∀ g, g < w.heap.size → own' g = own g
  block : ∀ g, g < w.heap.size → ¬ T (own g) → w'.heap[g]? = w.heap[g]?
  junk : (∀ g, w.heap.size ≤ g → own g = 0) → ∀ g, w'.heap.size ≤ g → own' g = 0

variable {T T' : Nat → Prop} {own own' own'' : Nat → Nat} {w w' w'' : World}

theorem Fr.refl (T : Nat → Prop) (own : Nat → Nat) (w : World) : Fr T own own w w := ⟨rfl, rfl, rfl, Nat.le_refl _, fun _ _ => rfl, fun _ _ _ => rfl, fun h => h⟩
theorem Fr.trans (h : Fr T own own' w w') (k : Fr T own' own'' w' w'') : Fr T own own'' w w'' :=
  ⟨k.os.trans h.os, k.tape.trans h.tape, k.output.trans h.output, Nat.le_trans h.size k.size,
    fun g hg => (k.old g (Nat.lt_of_lt_of_le hg h.size)).trans (h.old g hg),
    fun g hg ht => (k.block g (Nat.lt_of_lt_of_le hg h.size) (by rw [h.old g hg]; exact ht)).trans (h.block g hg ht), fun j => k.junk (h.junk j)⟩
theorem Fr.mono (h : Fr T own own' w w') (hT : ∀ t, T t → T' t) : Fr T' own own' w w' :=
  ⟨h.os, h.tape, h.output, h.size, h.old, fun g hg ht => h.block g hg (fun e => ht (hT _ e)), h.junk⟩
theorem Fr.below (h : Below w.heap.size w w') : Fr T own own w w' := ⟨h.os, h.tape, h.output, h.size, fun _ _ => rfl, fun g hg _ => h.block g hg, fun j g hg => j g (Nat.le_trans h.size hg)⟩
theorem Fr.alloc (h : Fr T own own' w w') (o : Obj) : Fr T own own' w (w'.alloc o) := h.trans (Fr.below ((Below.refl _ _).alloc (Nat.le_refl _) o))
theorem Fr.drew (h : Fr T own own' w w') : Fr T own own' w w'.drew := ⟨h.os, h.tape, h.output, h.size, h.old, h.block, h.junk⟩
theorem Fr.setCell (h : Fr T own own' w w') (b i : Nat) (v : Value) (hb : T (own' b)) : Fr T own own' w (w'.setCell ⟨b, i, none⟩ v) :=
  h.trans ⟨rfl, rfl, rfl, by simp [World.setCell], fun _ _ => rfl, fun g _ ht => Below.heap_setCell _ _ _ _ (fun e => ht (by rw [e]; exact hb)), fun j g hg => j g (by simpa [World.setCell] using hg)⟩
/-- A store into a block that is new since. -/
theorem Fr.setNew (h : Fr T own own' w w') (b i : Nat) (v : Value) (hb : w.heap.size ≤ b) : Fr T own own' w (w'.setCell ⟨b, i, none⟩ v) :=
  ⟨h.os, h.tape, h.output, Nat.le_trans h.size (by simp [World.setCell]), h.old, fun g hg ht => (Below.heap_setCell _ _ _ _ (by show g ≠ b; omega)).trans (h.block g hg ht), fun j g hg => h.junk j g (by simpa [World.setCell] using hg)⟩
theorem Fr.tail (h : Fr T own own' w w') (k : Below w.heap.size w' w'') (hs : w'.heap.size ≤ w''.heap.size) : Fr T own own' w w'' :=
  ⟨k.os.trans h.os, k.tape.trans h.tape, k.output.trans h.output, Nat.le_trans h.size hs, h.old, fun g hg ht => (k.block g hg).trans (h.block g hg ht), fun j g hg => h.junk j g (Nat.le_trans hs hg)⟩

theorem Fr.cell (h : Fr T own own' w w') {b : Nat} (o : Nat) (hb : b < w.heap.size) (ht : ¬ T (own b)) : w'.cell? ⟨b, o, none⟩ = w.cell? ⟨b, o, none⟩ := World.cell?_of_block (a := ⟨b, o, none⟩) (h.block b hb ht)
theorem Fr.frozen (h : Fr T own own' w w') {b : Nat} (o : Nat) (hb : b < w.heap.size) (ht : ¬ T (own b)) : w'.frozen? ⟨b, o, none⟩ = w.frozen? ⟨b, o, none⟩ := World.frozen?_of_block (a := ⟨b, o, none⟩) (h.block b hb ht)

/-- A row under a tag. -/
structure Row (own : Nat → Nat) (w : World) (t b ty n : Nat) (f : Nat → Value) : Prop where
  tag : own b = t
  row : w.rowIs b ty n f

theorem Row.fr {t b ty n : Nat} {f : Nat → Value} (h : Row own w t b ty n f) (k : Fr T own own' w w') (ht : ¬ T t) : Row own' w' t b ty n f :=
  ⟨(k.old b h.row.lt).trans h.tag, h.row.of_block (k.block b h.row.lt (by rw [h.tag]; exact ht))⟩
theorem Row.set {t b ty n : Nat} {f : Nat → Value} (h : Row own w t b ty n f) (i : Nat) (v : Value) : Row own (w.setCell ⟨b, i, none⟩ v) t b ty n (fun j => if j = i then v else f j) :=
  ⟨h.tag, h.row.set i v⟩
theorem Row.congr {t b ty n : Nat} {f g : Nat → Value} (h : Row own w t b ty n f) (e : ∀ i, i < n → f i = g i) : Row own w t b ty n g := ⟨h.tag, h.row.congr e⟩

/-- A slice under a tag: its cells, and that of its room each cell is there and good. -/
def Sl (G : Nat → Value → Prop) (own : Nat → Nat) (w : World) (t size : Nat) (v : Value) (n : Nat) (xs : List Value) : Prop :=
  xs.length = n * size ∧
  ((v = .slice none 0 0 ∧ n = 0) ∨
   ∃ g off cap, v = .slice (some ⟨g, off, none⟩) n cap ∧ own g = t ∧ g < w.heap.size ∧ n ≤ cap ∧ cap ≤ maxLen ∧ (∀ j u, xs[j]? = some u → w.cell? ⟨g, off + j, none⟩ = some u) ∧
     (∀ j, j < cap * size → ∃ u, w.cell? ⟨g, off + j, none⟩ = some u ∧ G (j % size) u) ∧ ∀ j, w.frozen? ⟨g, j, none⟩ = false)

theorem Sl.nil (G : Nat → Value → Prop) (own : Nat → Nat) (w : World) (t size : Nat) : Sl G own w t size (.slice none 0 0) 0 [] := ⟨by simp, .inl ⟨rfl, rfl⟩⟩

theorem Sl.fr {G : Nat → Value → Prop} {t size n : Nat} {v : Value} {xs : List Value} (h : Sl G own w t size v n xs) (k : Fr T own own' w w') (ht : ¬ T t) : Sl G own' w' t size v n xs := by
  obtain ⟨h1, h2⟩ := h
  refine ⟨h1, ?_⟩
  rcases h2 with h2 | ⟨g, off, cap, hv, ho, hg, hn, hm, hc, hs, hf⟩
  · exact .inl h2
  · have hne : ¬ T (own g) := by rw [ho]; exact ht
    exact .inr ⟨g, off, cap, hv, (k.old g hg).trans ho, Nat.lt_of_lt_of_le hg k.size, hn, hm, fun j u hj => (k.cell _ hg hne).trans (hc j u hj),
      fun j hj => (by rw [k.cell _ hg hne]; exact hs j hj), fun j => (k.frozen _ hg hne).trans (hf j)⟩

/-- A new tag for what is new. -/
def upd (own : Nat → Nat) (g t : Nat) : Nat → Nat := fun x => if x = g then t else own x

theorem upd_same (own : Nat → Nat) (g t : Nat) : upd own g t g = t := if_pos rfl
theorem upd_other (own : Nat → Nat) (g t x : Nat) (h : x ≠ g) : upd own g t x = own x := if_neg h

theorem Fr.allocTag (T : Nat → Prop) (own : Nat → Nat) (w : World) (o : Obj) (t : Nat) : Fr T own (upd own w.heap.size t) w (w.alloc o) := by
  refine ⟨rfl, rfl, rfl, by simp, fun g hg => upd_other _ _ _ _ (by omega), fun g hg _ => Below.heap_alloc _ _ _ hg, fun j g hg => ?_⟩
  have h2 : w.heap.size + 1 ≤ g := by simpa using hg
  rw [upd_other _ _ _ _ (by omega)]
  exact j g (by omega)

theorem zeroCells_get (z : Array Value) (n j : Nat) (hj : j < n * z.size) : ∃ k, k = j % z.size ∧ (Builtin.zeroCells z n)[j]? = z[k]? := by
  have hz : 0 < z.size := by
    rcases Nat.eq_zero_or_pos z.size with h | h
    · rw [h] at hj; omega
    · exact h
  refine ⟨j % z.size, rfl, ?_⟩
  have hk : j % z.size < z.size := Nat.mod_lt _ hz
  simp [Builtin.zeroCells, hj, hk]

end Fl

/-! append onto a slice under a tag. -/
namespace Fl
open Go Go.RowKit

theorem sl_grown (G : Nat → Value → Prop) (own : Nat → Nat) (w : World) (tg e size n m : Nat) (z : Value) (hzs : z.cells.size = size) (xs news : List Value) (hx : xs.length = n * size) (hl : news.length = m * size)
    (hGx : ∀ j u, xs[j]? = some u → G (j % size) u) (hG : ∀ j u, news[j]? = some u → G (j % size) u) (hGz : ∀ j u, z.cells[j]? = some u → G j u) (hsz : 0 < size) (cap : Nat) (hcap : n + m ≤ cap) (hm : cap ≤ maxLen) :
    Sl G (upd own w.heap.size tg) (w.drew.alloc (.cells (xs.toArray ++ news.toArray ++ Builtin.zeroCells z.cells (cap - (n + m))) e)) tg size (.slice (some ⟨w.heap.size, 0, none⟩) (n + m) cap) (n + m) (xs ++ news) := by
  have hlen : (xs ++ news).length = (n + m) * size := by rw [List.length_append, hx, hl, Nat.add_mul]
  have hcell : ∀ j, (w.drew.alloc (.cells (xs.toArray ++ news.toArray ++ Builtin.zeroCells z.cells (cap - (n + m))) e)).cell? ⟨w.heap.size, 0 + j, none⟩ = (xs.toArray ++ news.toArray ++ Builtin.zeroCells z.cells (cap - (n + m)))[j]? := by
    intro j
    rw [Nat.zero_add]
    exact World.cell?_alloc_at _ _ _ _ rfl
  refine ⟨hlen, .inr ⟨w.heap.size, 0, cap, rfl, upd_same _ _ _, by simp, hcap, hm, ?_, ?_, ?_⟩⟩
  · intro j u hj
    have hj2 : j < (xs ++ news).length := (List.getElem?_eq_some_iff.1 hj).1
    rw [hcell, Array.getElem?_append_left (by simpa using hj2)]
    simpa using hj
  · intro j hj
    rw [hcell]
    by_cases h : j < (xs ++ news).length
    · have h' : j < (xs.toArray ++ news.toArray).size := by simpa using h
      rw [Array.getElem?_append_left h']
      have hg : (xs.toArray ++ news.toArray)[j]? = (xs ++ news)[j]? := by simp
      rw [hg]
      by_cases hxj : j < xs.length
      · rw [List.getElem?_append_left hxj, List.getElem?_eq_getElem hxj]
        exact ⟨_, rfl, hGx j _ (List.getElem?_eq_getElem hxj)⟩
      · rw [List.getElem?_append_right (by omega)]
        have hj3 : j - xs.length < news.length := by rw [List.length_append] at h; omega
        rw [List.getElem?_eq_getElem hj3]
        have hmod : (j - xs.length) % size = j % size := by
          rw [hx]
          have : j = (j - n * size) + n * size := by omega
          conv => rhs; rw [this]
          rw [Nat.add_mul_mod_self_right]
        refine ⟨_, rfl, ?_⟩
        rw [← hmod]
        exact hG _ _ (List.getElem?_eq_getElem hj3)
    · have h' : (xs.toArray ++ news.toArray).size ≤ j := by simp at h ⊢; omega
      rw [Array.getElem?_append_right h']
      have hs2 : (xs.toArray ++ news.toArray).size = (n + m) * size := by simpa using hlen
      rw [hs2]
      have hj4 : j - (n + m) * size < (cap - (n + m)) * z.cells.size := by rw [hzs, Nat.sub_mul]; rw [hlen] at h; omega
      obtain ⟨k, hk, hzk⟩ := zeroCells_get z.cells (cap - (n + m)) (j - (n + m) * size) hj4
      rw [hzk]
      have hk2 : k < z.cells.size := by rw [hk]; exact Nat.mod_lt _ (by omega)
      rw [Array.getElem?_eq_getElem hk2]
      have hmod : k = j % size := by
        rw [hk, hzs]
        have : j = (j - (n + m) * size) + (n + m) * size := by rw [hlen] at h; omega
        conv => rhs; rw [this]
        rw [Nat.add_mul_mod_self_right]
      refine ⟨_, rfl, ?_⟩
      rw [← hmod]
      exact hGz k _ (Array.getElem?_eq_getElem hk2)
  · intro j
    exact World.frozen?_alloc_at _ _ _ _ rfl

theorem Sl.good {G : Nat → Value → Prop} {own : Nat → Nat} {w : World} {t size n : Nat} {v : Value} {xs : List Value} (h : Sl G own w t size v n xs) : ∀ j u, xs[j]? = some u → G (j % size) u := by
  intro j u hj
  obtain ⟨h1, h2⟩ := h
  have hj2 : j < xs.length := (List.getElem?_eq_some_iff.1 hj).1
  rcases h2 with ⟨_, rfl⟩ | ⟨g, off, cap, _, _, _, hn, _, hc, hs, _⟩
  · simp at h1; subst h1; simp at hj
  · have hlt : j < cap * size := by rw [h1] at hj2; exact Nat.lt_of_lt_of_le hj2 (Nat.mul_le_mul_right _ hn)
    obtain ⟨u', hu', hG⟩ := hs j hlt
    rw [hc j u hj] at hu'
    cases hu'
    exact hG

theorem run_append_sl {P : Program} (w : World) (t ty e : TypeId) (i : TypeInfo) (z : Value) (size bytes : Nat) (ht : P.underlying t = some (.slice e)) (hi : P.info? e = some i) (hz : i.zero = some z)
    (hsize : i.size = size) (hby : i.bytes = bytes) (hzs : z.cells.size = size) (hsz : 0 < size)
    (G : Nat → Value → Prop) (own : Nat → Nat) (tg : Nat) (v : Value) (n : Nat) (xs : List Value) (hsl : Sl G own w tg size v n xs)
    (a : Addr) (m c : Nat) (news : List Value) (hl : news.length = m * size) (hnews : ∀ j u, news[j]? = some u → w.cell? (a.add j) = some u) (h1 : ∀ u ∈ news, u.oneCell' = true)
    (hG : ∀ j u, news[j]? = some u → G (j % size) u) (hGz : ∀ j u, z.cells[j]? = some u → G j u)
    (hm1 : 1 ≤ m) (h63 : n + m ≤ maxLen) (hbytes : (n + m) * bytes ≤ 140737488355328) :
    ∃ v' w' own', (Builtin.append_ #[t, t] ty #[v, .slice (some a) m c]).run P w = .ok v' w' ∧ Sl G own' w' tg size v' (n + m) (xs ++ news) ∧ Fr (fun x => x = tg) own own' w w' ∧ (∃ b k, v' = .slice (some b) (n + m) k) := by
  have hgood := hsl.good
  obtain ⟨hx, hsl2⟩ := hsl
  subst hsize
  subst hby
  have hsmall : n + m ≤ 9223372036854775807 := by simp only [maxLen] at h63; omega
  have grown : ∀ old, old < n + m → ∃ w' own', w' = (w.drew.alloc (.cells (xs.toArray ++ news.toArray ++ Builtin.zeroCells z.cells (grownCap w (n + m) old e - (n + m))) e)) ∧
      Sl G own' w' tg i.size (.slice (some ⟨w.heap.size, 0, none⟩) (n + m) (grownCap w (n + m) old e)) (n + m) (xs ++ news) ∧ Fr (fun x => x = tg) own own' w w' := by
    intro old _
    refine ⟨_, upd own w.heap.size tg, rfl, sl_grown G own w tg e i.size n m z hzs xs news hx hl hgood hG hGz hsz _ (grownCap_ge w _ _ _) (grownCap_le_maxLen w (n + m) old e h63), ?_⟩
    exact ((Fr.refl _ own w).drew).trans (Fr.allocTag _ own w.drew _ tg)
  rcases hsl2 with ⟨rfl, rfl⟩ | ⟨g, off, cap, rfl, ho, hg, hn, hcm, hc, hs, hf⟩
  · have hx0 : xs = [] := List.eq_nil_of_length_eq_zero (by simpa using hx)
    subst hx0
    have hr := run_append_nil (P := P) w t ty e i z ht hi hz a m c news hl hnews (by omega) (by omega) (by have hb := hbytes; simp only [Nat.zero_add] at hb; omega)
    obtain ⟨w', own', e1, e2, e3⟩ := grown 0 (by omega)
    simp only [Nat.zero_add, List.nil_append, Array.empty_append] at e1 e2 ⊢
    exact ⟨_, w', own', by rw [e1]; exact hr, e2, e3, _, _, rfl⟩
  · have holds : ∀ j u, xs[j]? = some u → w.cell? ((⟨g, off, none⟩ : Addr).add j) = some u := fun j u hj => by rw [Addr.add_lit]; exact hc j u hj
    by_cases hroom : n + m ≤ cap
    · have hcellsome : ∀ j, j < news.length → (w.cell? ⟨g, off + n * i.size + j, none⟩).isSome = true := by
        intro j hj
        have hlt : n * i.size + j < cap * i.size := by
          rw [hl] at hj
          have := Nat.mul_le_mul_right i.size hroom
          rw [Nat.add_mul] at this
          omega
        obtain ⟨u, hu, _⟩ := hs _ hlt
        rw [Nat.add_assoc, hu]; rfl
      have hr := run_append_room_cells (P := P) w t ty e i ht hi g off n cap a m c news hl hnews h1 hroom hcellsome (fun j _ => hf _)
      have hin := World.cell?_setCells_in g news (off + n * i.size) w hcellsome
      have hout := fun x h => World.cell?_setCells_out g news (off + n * i.size) w x h
      refine ⟨_, _, own, hr, ⟨by rw [List.length_append, hx, hl, Nat.add_mul], .inr ⟨g, off, cap, rfl, ho, ?_, hroom, hcm, ?_, ?_, ?_⟩⟩, ?_, _, _, rfl⟩
      · have : ∀ (vs : List Value) (o : Nat) (w : World), (w.setCells g o vs).heap.size = w.heap.size := by
          intro vs
          induction vs with
          | nil => intro o w; rfl
          | cons v r ih => intro o w; rw [World.setCells, ih]; simp [World.setCell]
        rw [this]; exact hg
      · intro j u hj
        by_cases hxj : j < xs.length
        · rw [List.getElem?_append_left hxj] at hj
          rw [hout _ (fun _ _ => Or.inl (by simp only; omega))]
          exact hc j u hj
        · rw [List.getElem?_append_right (by omega)] at hj
          have hj3 : j - xs.length < news.length := (List.getElem?_eq_some_iff.1 hj).1
          have := hin (j - xs.length) hj3
          rw [show off + n * i.size + (j - xs.length) = off + j by rw [hx]; omega] at this
          rw [this]
          rw [List.getElem?_eq_getElem hj3] at hj
          exact hj
      · intro j hj
        by_cases hxj : n * i.size ≤ j ∧ j - n * i.size < news.length
        · have := hin (j - n * i.size) hxj.2
          rw [show off + n * i.size + (j - n * i.size) = off + j by omega] at this
          refine ⟨_, this, ?_⟩
          have hmod : (j - n * i.size) % i.size = j % i.size := by
            have : j = (j - n * i.size) + n * i.size := by omega
            conv => rhs; rw [this]
            rw [Nat.add_mul_mod_self_right]
          rw [← hmod]
          exact hG _ _ (List.getElem?_eq_getElem hxj.2)
        · rw [hout _ (fun _ _ => by simp only; omega)]
          exact hs j hj
      · intro j
        rw [World.frozen?_setCells]
        exact hf j
      · have : ∀ (vs : List Value) (o : Nat) (w1 : World), Fr (fun x => x = tg) own own w w1 → Fr (fun x => x = tg) own own w (w1.setCells g o vs) := by
          intro vs
          induction vs with
          | nil => intro o w1 h; exact h
          | cons v r ih => intro o w1 h; rw [World.setCells]; exact ih _ _ (h.setCell g o v ho)
        exact this _ _ _ (Fr.refl _ _ _)
    · have hr := run_append_grow (P := P) w t ty e i z ht hi hz ⟨g, off, none⟩ n cap xs hx holds a m c news hl hnews (by omega) (by omega) (growslice_fits (by omega) hbytes)
      obtain ⟨w', own', e1, e2, e3⟩ := grown cap (by omega)
      exact ⟨_, w', own', by rw [e1]; exact hr, e2, e3, _, _, rfl⟩

theorem wpList_append_sl {P : Program} (w : World) {ops : Array Oper} {rest : List Oper} {o : Oper} {a : Act} {Q : Exit → Act → World → Prop} (hgd : o.guard = none) (s x : Operand) (t : TypeId)
    (hop : o.op = Op.call { callee := Callee.builtin Builtin.append, args := #[s, x], argTypes := #[t, t] })
    (e : TypeId) (i : TypeInfo) (z : Value) (size bytes : Nat) (ht : P.underlying t = some (.slice e)) (hi : P.info? e = some i) (hz : i.zero = some z)
    (hsize : i.size = size) (hby : i.bytes = bytes) (hzs : z.cells.size = size) (hsz : 0 < size)
    (G : Nat → Value → Prop) (own : Nat → Nat) (tg : Nat) (v : Value) (n : Nat) (xs : List Value) (hs : a.eval s = v) (hsl : Sl G own w tg size v n xs)
    (ad : Addr) (m c : Nat) (news : List Value) (hx : a.eval x = .slice (some ad) m c) (hl : news.length = m * size) (hnews : ∀ j u, news[j]? = some u → w.cell? (ad.add j) = some u) (h1 : ∀ u ∈ news, u.oneCell' = true)
    (hG : ∀ j u, news[j]? = some u → G (j % size) u) (hGz : ∀ j u, z.cells[j]? = some u → G j u)
    (hm1 : 1 ≤ m) (h63 : n + m ≤ maxLen) (hbytes : (n + m) * bytes ≤ 140737488355328)
    (h : ∀ v' w' own', Sl G own' w' tg size v' (n + m) (xs ++ news) → Fr (fun x => x = tg) own own' w w' → (∃ b k, v' = .slice (some b) (n + m) k) → wpList P ops Q rest (a.put o.dst v') w') : wpList P ops Q (o :: rest) a w := by
  refine wpList_plain hgd fun K hK' => ?_
  obtain ⟨v', w', own', hrun, r1, r2, r3⟩ := run_append_sl (P := P) w t o.type e i z size bytes ht hi hz hsize hby hzs hsz G own tg v n xs hsl ad m c news hl hnews h1 hG hGz hm1 h63 hbytes
  unfold Oper.wp
  simp [execOp, hop, resolve, invoke, builtin, hs, hx, hrun, Result.andThen]
  exact hK' _ _ (h v' w' own' r1 r2 r3)

end Fl

/-! append under a tag, as one step of a region that draws. -/
namespace Fl
open Go Go.RowKit

theorem step_append_sl {P : Program} {ops : Array Oper} {o : Oper} {a : Act} {w : World} {K : Act → World → Prop} {Q : Exit → Act → World → Prop} {E : Prop}
    (hgd : o.guard = none) (s x : Operand) (t : TypeId)
    (hop : o.op = Op.call { callee := Callee.builtin Builtin.append, args := #[s, x], argTypes := #[t, t] })
    (e : TypeId) (i : TypeInfo) (z : Value) (size bytes : Nat) (ht : P.underlying t = some (.slice e)) (hi : P.info? e = some i) (hz : i.zero = some z)
    (hsize : i.size = size) (hby : i.bytes = bytes) (hzs : z.cells.size = size) (hsz : 0 < size)
    (G : Nat → Value → Prop) (own : Nat → Nat) (tg : Nat) (v : Value) (n : Nat) (xs : List Value) (hs : a.eval s = v) (hsl : Sl G own w tg size v n xs)
    (ad : Addr) (m c : Nat) (news : List Value) (hx : a.eval x = .slice (some ad) m c) (hl : news.length = m * size) (hnews : ∀ j u, news[j]? = some u → w.cell? (ad.add j) = some u) (h1 : ∀ u ∈ news, u.oneCell' = true)
    (hG : ∀ j u, news[j]? = some u → G (j % size) u) (hGz : ∀ j u, z.cells[j]? = some u → G j u)
    (hm1 : 1 ≤ m) (h63 : n + m ≤ maxLen) (hbytes : (n + m) * bytes ≤ 140737488355328)
    (h : ∀ v' w' own', Sl G own' w' tg size v' (n + m) (xs ++ news) → Fr (fun x => x = tg) own own' w w' → (∃ b k, v' = .slice (some b) (n + m) k) → K (a.put o.dst v') w') :
    if Region.wanted o (yielded ops a.tmps) = true then Oper.wp P o a w K Q else E := by
  have hw : Region.wanted o (yielded ops a.tmps) = true := by simp [Region.wanted, hgd]
  rw [if_pos hw]
  obtain ⟨v', w', own', hrun, r1, r2, r3⟩ := run_append_sl (P := P) w t o.type e i z size bytes ht hi hz hsize hby hzs hsz G own tg v n xs hsl ad m c news hl hnews h1 hG hGz hm1 h63 hbytes
  unfold Oper.wp
  simp [execOp, hop, resolve, invoke, builtin, hs, hx, hrun, Result.andThen]
  exact h v' w' own' r1 r2 r3

theorem Sl.below {G : Nat → Value → Prop} {own : Nat → Nat} {w w' : World} {t size n : Nat} {v : Value} {xs : List Value} (h : Sl G own w t size v n xs) (k : Below w.heap.size w w') : Sl G own w' t size v n xs :=
  h.fr (T := fun _ => False) (Fr.below k) id

theorem Row.below {own : Nat → Nat} {w w' : World} {t b ty n : Nat} {f : Nat → Value} (h : Row own w t b ty n f) (k : Below w.heap.size w w') : Row own w' t b ty n f :=
  h.fr (T := fun _ => False) (Fr.below k) id

/-- Two blocks laid, and a draw. -/
theorem below2 (w : World) (o1 o2 : Obj) : Below w.heap.size w ((w.alloc o1).alloc o2).drew := (((Below.refl _ _).alloc (Nat.le_refl _) _).alloc (by simp) _).drew
theorem below2' (w : World) (o1 o2 : Obj) : Below w.heap.size w ((w.alloc o1).alloc o2) := (((Below.refl _ _).alloc (Nat.le_refl _) _).alloc (by simp) _)

theorem cells3 {w : World} {b : Nat} {x y z : Value} (h0 : w.cell? ⟨b, 0, none⟩ = some x) (h1 : w.cell? ⟨b, 1, none⟩ = some y) (h2 : w.cell? ⟨b, 2, none⟩ = some z) :
    ∀ j u, [x, y, z][j]? = some u → w.cell? ((⟨b, 0, none⟩ : Addr).add j) = some u := by
  intro j u hj
  match j, hj with
  | 0, hj => simp at hj; subst hj; simpa [Addr.add] using h0
  | 1, hj => simp at hj; subst hj; simpa [Addr.add] using h1
  | 2, hj => simp at hj; subst hj; simpa [Addr.add] using h2

/-- Two blocks laid and a draw, the first under a tag. -/
theorem frTwo (T : Nat → Prop) (own : Nat → Nat) (w : World) (o1 o2 : Obj) (t : Nat) : Fr T own (upd own w.heap.size t) w ((w.alloc o1).alloc o2).drew := ((Fr.allocTag T own w o1 t).alloc o2).drew

end Fl

namespace Fl
open Go Go.RowKit

/-- A block of a call's own: its cells. -/
structure Box (own : Nat → Nat) (w : World) (b : Nat) (l : List Value) : Prop where
  tag : own b = 0
  lt : b < w.heap.size
  cells : ∀ i v, l[i]? = some v → w.cell? ⟨b, i, none⟩ = some v
  frozen : ∀ i, w.frozen? ⟨b, i, none⟩ = false

variable {own own' : Nat → Nat} {w w' : World} {b : Nat} {l : List Value}

theorem Box.fr {T : Nat → Prop} (h : Box own w b l) (k : Fr T own own' w w') (h0 : ¬ T 0) : Box own' w' b l :=
  ⟨(k.old b h.lt).trans h.tag, Nat.lt_of_lt_of_le h.lt k.size, fun i v hi => (k.cell i h.lt (by rw [h.tag]; exact h0)).trans (h.cells i v hi), fun i => (k.frozen i h.lt (by rw [h.tag]; exact h0)).trans (h.frozen i)⟩

theorem Box.below (h : Box own w b l) (k : Below w.heap.size w w') : Box own w' b l := h.fr (T := fun _ => False) (Fr.below k) id

theorem Box.alloc (h : Box own w b l) (o : Obj) : Box own (w.alloc o) b l := h.below ((Below.refl _ _).alloc (Nat.le_refl _) o)
theorem Box.drew (h : Box own w b l) : Box own w.drew b l := h.below ((Below.refl _ _).drew)

theorem Box.other (h : Box own w b l) (g i : Nat) (u : Value) (hne : g ≠ b) : Box own (w.setCell ⟨g, i, none⟩ u) b l :=
  ⟨h.tag, by simpa [World.setCell] using h.lt, fun j v hj => (World.cell?_of_block (a := ⟨b, j, none⟩) (Below.heap_setCell w ⟨g, i, none⟩ u b (fun e => hne e.symm))).trans (h.cells j v hj),
    fun j => (World.frozen?_of_block (a := ⟨b, j, none⟩) (Below.heap_setCell w ⟨g, i, none⟩ u b (fun e => hne e.symm))).trans (h.frozen j)⟩

/-- A row under no tag. -/
theorem Box.row {t b ty n : Nat} {f : Nat → Value} (h : Row own w t b ty n f) (h0 : t = 0) (l : List Value) (hl : ∀ i v, l[i]? = some v → i < n ∧ f i = v) : Box own w b l :=
  ⟨h.tag.trans h0, h.row.lt, fun i v hi => (h.row.cell (hl i v hi).1).trans (by rw [(hl i v hi).2]), h.row.frozen⟩

/-- Six cells, told one by one. -/
theorem Box.six (a0 a1 a2 a3 a4 a5 : Value) (ht : own b = 0) (hlt : b < w.heap.size) (h0 : w.cell? ⟨b, 0, none⟩ = some a0) (h1 : w.cell? ⟨b, 1, none⟩ = some a1) (h2 : w.cell? ⟨b, 2, none⟩ = some a2) (h3 : w.cell? ⟨b, 3, none⟩ = some a3) (h4 : w.cell? ⟨b, 4, none⟩ = some a4) (h5 : w.cell? ⟨b, 5, none⟩ = some a5) (hz : ∀ i, w.frozen? ⟨b, i, none⟩ = false) :
    Box own w b [a0, a1, a2, a3, a4, a5] := by
  refine ⟨ht, hlt, fun i v hi => ?_, hz⟩
  match i, hi with
  | 0, hi => simp at hi; rw [h0, hi]
  | 1, hi => simp at hi; rw [h1, hi]
  | 2, hi => simp at hi; rw [h2, hi]
  | 3, hi => simp at hi; rw [h3, hi]
  | 4, hi => simp at hi; rw [h4, hi]
  | 5, hi => simp at hi; rw [h5, hi]
  | n + 6, hi => simp at hi

theorem Box.three (a0 a1 a2 : Value) (ht : own b = 0) (hlt : b < w.heap.size) (h0 : w.cell? ⟨b, 0, none⟩ = some a0) (h1 : w.cell? ⟨b, 1, none⟩ = some a1) (h2 : w.cell? ⟨b, 2, none⟩ = some a2) (hz : ∀ i, w.frozen? ⟨b, i, none⟩ = false) : Box own w b [a0, a1, a2] := by
  refine ⟨ht, hlt, fun i v hi => ?_, hz⟩
  match i, hi with
  | 0, hi => simp at hi; rw [h0, hi]
  | 1, hi => simp at hi; rw [h1, hi]
  | 2, hi => simp at hi; rw [h2, hi]
  | n + 3, hi => simp at hi

theorem Box.ten (a0 a1 a2 a3 a4 a5 a6 a7 a8 a9 : Value) (ht : own b = 0) (hlt : b < w.heap.size) (h0 : w.cell? ⟨b, 0, none⟩ = some a0) (h1 : w.cell? ⟨b, 1, none⟩ = some a1) (h2 : w.cell? ⟨b, 2, none⟩ = some a2) (h3 : w.cell? ⟨b, 3, none⟩ = some a3) (h4 : w.cell? ⟨b, 4, none⟩ = some a4) (h5 : w.cell? ⟨b, 5, none⟩ = some a5) (h6 : w.cell? ⟨b, 6, none⟩ = some a6) (h7 : w.cell? ⟨b, 7, none⟩ = some a7) (h8 : w.cell? ⟨b, 8, none⟩ = some a8) (h9 : w.cell? ⟨b, 9, none⟩ = some a9) (hz : ∀ i, w.frozen? ⟨b, i, none⟩ = false) : Box own w b [a0, a1, a2, a3, a4, a5, a6, a7, a8, a9] := by
  refine ⟨ht, hlt, fun i v hi => ?_, hz⟩
  match i, hi with
  | 0, hi => simp at hi; rw [h0, hi]
  | 1, hi => simp at hi; rw [h1, hi]
  | 2, hi => simp at hi; rw [h2, hi]
  | 3, hi => simp at hi; rw [h3, hi]
  | 4, hi => simp at hi; rw [h4, hi]
  | 5, hi => simp at hi; rw [h5, hi]
  | 6, hi => simp at hi; rw [h6, hi]
  | 7, hi => simp at hi; rw [h7, hi]
  | 8, hi => simp at hi; rw [h8, hi]
  | 9, hi => simp at hi; rw [h9, hi]
  | n + 10, hi => simp at hi

/-- What was just made. -/
theorem Box.made (own : Nat → Nat) (w : World) (a : Array Value) (ty : TypeId) (ht : own w.heap.size = 0) (hc : ∀ i v, a.toList[i]? = some v → (w.alloc (.cells a ty)).cell? ⟨w.heap.size, i, none⟩ = some v) (hz : ∀ i, (w.alloc (.cells a ty)).frozen? ⟨w.heap.size, i, none⟩ = false) : Box own (w.alloc (.cells a ty)) w.heap.size a.toList :=
  ⟨ht, by simp, hc, hz⟩

end Fl

namespace Go.Proofs.Ytnkicbopebgppaa
open Go.RowKit Fl

set_option maxHeartbeats 400000 in
theorem turned_any (x z : Nat) (n : Int) (w : World) (hx : x < 18446744073709551616) (h0 : 0 ≤ n) (hn : n ≤ 64) (hz : Bx (z = rotl n.toNat x)) :
    Calls Try.prog 91 #[.int .u64 x, .int .u64 n] w fun e w' => e = .returned (.int .u64 z) ∧ w' = w := by
  obtain ⟨n, rfl⟩ := Int.eq_ofNat_of_zero_le h0
  have hz2 := hz.out
  rw [Int.toNat_natCast] at hz2
  go_enter Try.func91, Try.ntmps91
  go_wp2
  go_ret
  exact ⟨ret_int (by rw [hz2]; exact turned_eq x n hx (by omega)), rfl⟩

theorem turned13 (x z : Nat) (w : World) (hx : x < 18446744073709551616) (hz : Bx (z = rotl 13 x)) :
    Calls Try.prog 91 #[.int .u64 x, .int .u64 13] w fun e w' => e = .returned (.int .u64 z) ∧ w' = w := turned_any x z 13 w hx (by decide) (by decide) hz
theorem turned16 (x z : Nat) (w : World) (hx : x < 18446744073709551616) (hz : Bx (z = rotl 16 x)) :
    Calls Try.prog 91 #[.int .u64 x, .int .u64 16] w fun e w' => e = .returned (.int .u64 z) ∧ w' = w := turned_any x z 16 w hx (by decide) (by decide) hz
theorem turned17 (x z : Nat) (w : World) (hx : x < 18446744073709551616) (hz : Bx (z = rotl 17 x)) :
    Calls Try.prog 91 #[.int .u64 x, .int .u64 17] w fun e w' => e = .returned (.int .u64 z) ∧ w' = w := turned_any x z 17 w hx (by decide) (by decide) hz
theorem turned21 (x z : Nat) (w : World) (hx : x < 18446744073709551616) (hz : Bx (z = rotl 21 x)) :
    Calls Try.prog 91 #[.int .u64 x, .int .u64 21] w fun e w' => e = .returned (.int .u64 z) ∧ w' = w := turned_any x z 21 w hx (by decide) (by decide) hz
theorem turned32 (x z : Nat) (w : World) (hx : x < 18446744073709551616) (hz : Bx (z = rotl 32 x)) :
    Calls Try.prog 91 #[.int .u64 x, .int .u64 32] w fun e w' => e = .returned (.int .u64 z) ∧ w' = w := turned_any x z 32 w hx (by decide) (by decide) hz

/-- The four words lie at ⟨b, o⟩. -/
def SipAt (w : World) (b o : Nat) (s : S4) : Prop :=
  w.cell? ⟨b, o, none⟩ = some (.int .u64 s.a) ∧ w.cell? ⟨b, o + 1, none⟩ = some (.int .u64 s.b) ∧ w.cell? ⟨b, o + 2, none⟩ = some (.int .u64 s.c) ∧ w.cell? ⟨b, o + 3, none⟩ = some (.int .u64 s.d) ∧ ∀ i, w.frozen? ⟨b, i, none⟩ = false

end Go.Proofs.Ytnkicbopebgppaa

namespace Go.Proofs.Ytnkicbopebgppaa
open Go.RowKit Fl

set_option maxHeartbeats 4000000 in
set_option maxRecDepth 100000 in
theorem round_any (b : Nat) (s : S4) (w : World) (hs : s.ok) (h : SipAt w b 0 s) :
    Calls Try.prog 88 #[.pointer (some ⟨b, 0, none⟩)] w fun e w' => e = .returned (.tuple #[]) ∧ SipAt w' b 0 (sipRound s) ∧ Only b w w' := by
  obtain ⟨h0, h1, h2, h3, hf⟩ := h
  obtain ⟨ha, hb, hc, hd⟩ := hs
  simp only [Nat.zero_add] at h1 h2 h3
  obtain ⟨sa, sb, sc, sd⟩ := s
  simp only at *
  obtain ⟨a1, ha1, ea1, Ha1⟩ := mk_add sa sb
  obtain ⟨rb, hrb, Hrb⟩ := mk_rot 13 sb (by omega) hb
  obtain ⟨b1, hb1, eb1, Hb1⟩ := mk_xor rb a1 hrb ha1
  obtain ⟨a2, ha2, Ha2⟩ := mk_rot 32 a1 (by omega) ha1
  obtain ⟨c1, hc1, ec1, Hc1⟩ := mk_add sc sd
  obtain ⟨rd, hrd, Hrd⟩ := mk_rot 16 sd (by omega) hd
  obtain ⟨d1, hd1, ed1, Hd1⟩ := mk_xor rd c1 hrd hc1
  obtain ⟨a3, ha3, ea3, Ha3⟩ := mk_add a2 d1
  obtain ⟨rd2, hrd2, Hrd2⟩ := mk_rot 21 d1 (by omega) hd1
  obtain ⟨d2, hd2, ed2, Hd2⟩ := mk_xor rd2 a3 hrd2 ha3
  obtain ⟨c2, hc2, ec2, Hc2⟩ := mk_add c1 b1
  obtain ⟨rb2, hrb2, Hrb2⟩ := mk_rot 17 b1 (by omega) hb1
  obtain ⟨b2, hb2, eb2, Hb2⟩ := mk_xor rb2 c2 hrb2 hc2
  obtain ⟨c3, hc3, Hc3⟩ := mk_rot 32 c2 (by omega) hc2
  go_enter Try.func88, Try.ntmps88
  go_wp2_with fail
  go_region
  clear ea1
  go_wp2_with fail
  refine wp_region_st 11 (by kernel_rfl) (by kernel_rfl) ?_
  simp only [List.take_succ_cons, List.take_zero, List.drop_succ_cons, List.drop_zero]
  repeat still_step
  still_call (turned13 _ rb _ hb Hrb)
  repeat still_step
  refine wpStill_nil ?_
  go_wp2_with (go_at_call 91; refine (turned32 _ a2 _ ha1 Ha2).mono ?_; rintro e w' ⟨rfl, rfl⟩)
  have hat1 : SipAt (((((w.setCell ⟨b, 0, none⟩ (.int .u64 (a1 : Nat))).setCell ⟨b, 1, none⟩ (.int .u64 (b1 : Nat))).setCell ⟨b, 0, none⟩ (.int .u64 (a2 : Nat))).drew).drew) b 0 ⟨a2, b1, sc, sd⟩ ∧ Only b w (((((w.setCell ⟨b, 0, none⟩ (.int .u64 (a1 : Nat))).setCell ⟨b, 1, none⟩ (.int .u64 (b1 : Nat))).setCell ⟨b, 0, none⟩ (.int .u64 (a2 : Nat))).drew).drew) := by
    refine ⟨⟨?_, ?_, ?_, ?_, ?_⟩, ?_⟩
    · go_simp
    · go_simp
    · go_simp
    · go_simp
    · intro i; go_simp
    · exact ((((Only.refl b w).setCell 0 _).setCell 1 _).setCell 0 _).drew.drew
  generalize ((((w.setCell ⟨b, 0, none⟩ (.int .u64 (a1 : Nat))).setCell ⟨b, 1, none⟩ (.int .u64 (b1 : Nat))).setCell ⟨b, 0, none⟩ (.int .u64 (a2 : Nat))).drew).drew = w1 at hat1 ⊢
  obtain ⟨⟨h0, h1, h2, h3, hf⟩, ho1⟩ := hat1
  simp only [Nat.zero_add] at h0 h1 h2 h3
  go_region
  go_wp2_with fail
  refine wp_region_st 11 (by kernel_rfl) (by kernel_rfl) ?_
  simp only [List.take_succ_cons, List.take_zero, List.drop_succ_cons, List.drop_zero]
  repeat still_step
  still_call (turned16 _ rd _ hd Hrd)
  repeat still_step
  refine wpStill_nil ?_
  go_wp2_with fail
  have hat2 : SipAt (((((w1.setCell ⟨b, 2, none⟩ (.int .u64 (c1 : Nat))).setCell ⟨b, 3, none⟩ (.int .u64 (d1 : Nat))).drew).drew)) b 0 ⟨a2, b1, c1, d1⟩ ∧ Only b w1 (((((w1.setCell ⟨b, 2, none⟩ (.int .u64 (c1 : Nat))).setCell ⟨b, 3, none⟩ (.int .u64 (d1 : Nat))).drew).drew)) := by
    refine ⟨⟨?_, ?_, ?_, ?_, ?_⟩, ?_⟩
    · go_simp
    · go_simp
    · go_simp
    · go_simp
    · intro i; go_simp
    · exact (((Only.refl b w1).setCell 2 _).setCell 3 _).drew.drew
  generalize ((((w1.setCell ⟨b, 2, none⟩ (.int .u64 (c1 : Nat))).setCell ⟨b, 3, none⟩ (.int .u64 (d1 : Nat))).drew).drew) = w2 at hat2 ⊢
  obtain ⟨⟨h0, h1, h2, h3, hf⟩, ho2⟩ := hat2
  simp only [Nat.zero_add] at h0 h1 h2 h3
  go_region
  go_wp2_with fail
  refine wp_region_st 11 (by kernel_rfl) (by kernel_rfl) ?_
  simp only [List.take_succ_cons, List.take_zero, List.drop_succ_cons, List.drop_zero]
  repeat still_step
  still_call (turned21 _ rd2 _ hd1 Hrd2)
  repeat still_step
  refine wpStill_nil ?_
  go_wp2_with fail
  have hat3 : SipAt (((((w2.setCell ⟨b, 0, none⟩ (.int .u64 (a3 : Nat))).setCell ⟨b, 3, none⟩ (.int .u64 (d2 : Nat))).drew).drew)) b 0 ⟨a3, b1, c1, d2⟩ ∧ Only b w2 (((((w2.setCell ⟨b, 0, none⟩ (.int .u64 (a3 : Nat))).setCell ⟨b, 3, none⟩ (.int .u64 (d2 : Nat))).drew).drew)) := by
    refine ⟨⟨?_, ?_, ?_, ?_, ?_⟩, ?_⟩
    · go_simp
    · go_simp
    · go_simp
    · go_simp
    · intro i; go_simp
    · exact (((Only.refl b w2).setCell 0 _).setCell 3 _).drew.drew
  generalize ((((w2.setCell ⟨b, 0, none⟩ (.int .u64 (a3 : Nat))).setCell ⟨b, 3, none⟩ (.int .u64 (d2 : Nat))).drew).drew) = w3 at hat3 ⊢
  obtain ⟨⟨h0, h1, h2, h3, hf⟩, ho3⟩ := hat3
  simp only [Nat.zero_add] at h0 h1 h2 h3
  go_region
  go_wp2_with fail
  refine wp_region_st 11 (by kernel_rfl) (by kernel_rfl) ?_
  simp only [List.take_succ_cons, List.take_zero, List.drop_succ_cons, List.drop_zero]
  repeat still_step
  still_call (turned17 _ rb2 _ hb1 Hrb2)
  repeat still_step
  refine wpStill_nil ?_
  go_wp2_with (go_at_call 91; refine (turned32 _ c3 _ hc2 Hc3).mono ?_; rintro e w' ⟨rfl, rfl⟩)
  go_end0
  have hr : sipRound ⟨sa, sb, sc, sd⟩ = ⟨a3, b2, c3, d2⟩ := by
    unfold sipRound
    dsimp only
    rw [← Ha1.out, ← Hrb.out, ← Hb1.out, ← Ha2.out, ← Hc1.out, ← Hrd.out, ← Hd1.out, ← Ha3.out, ← Hrd2.out, ← Hd2.out, ← Hc2.out, ← Hrb2.out, ← Hb2.out, ← Hc3.out]
  rw [hr]
  refine ⟨rfl, ⟨?_, ?_, ?_, ?_, ?_⟩, ?_⟩
  · go_simp
  · go_simp
  · go_simp
  · go_simp
  · intro i; go_simp
  · exact (((((ho1.trans ho2).trans ho3).setCell 2 _).setCell 1 _).setCell 2 _).drew.drew

end Go.Proofs.Ytnkicbopebgppaa

namespace Go.Proofs.Ytnkicbopebgppaa
open Go.RowKit Fl

theorem word_step1 (s : ByteArray) (a x : Nat) (h : a < s.size) (hx : x < 72057594037927936) :
    bits .or .u64 ((x : Int) * 256) (IntKind.u64.wrap (s[a].toNat : Int)) = ((byteAt s a + 256 * x : Nat) : Int) := by
  have hb : byteAt s a = s[a].toNat := by simp [byteAt, h]
  have hc2 : s[a].toNat < 256 := UInt8.toNat_lt _
  rw [hb]
  generalize s[a].toNat = c at *
  have hw : IntKind.u64.wrap (c : Int) = (c : Int) := by rw [IntKind.wrap_u64]; omega
  rw [hw, show (x : Int) * 256 = ((x * 256 : Nat) : Int) by simp, u64_or_nat _ _ (by omega) (by omega), nat_join 8 _ _ (by omega) (by omega)]
  omega

theorem word_step0 (s : ByteArray) (a x : Nat) (h : ¬ a < s.size) : (x : Int) * 256 = ((byteAt s a + 256 * x : Nat) : Int) := by
  have hb : byteAt s a = 0 := by simp [byteAt, h]
  rw [hb]; omega

set_option maxHeartbeats 400000 in
theorem word_any (s : ByteArray) (a : Int) (w : World) (h0 : 0 ≤ a) (h1 : a ≤ 1000000000000) (hs : s.size ≤ maxLen) :
    Calls Try.prog 73 #[.string s, .int .i64 a] w fun e w' => e = .returned (.int .u64 (word8 s a.toNat : Nat)) ∧ w' = w := by
  obtain ⟨a, rfl⟩ := Int.eq_ofNat_of_zero_le h0
  rw [Int.toNat_natCast]
  unfold maxLen at hs
  go_enter Try.func73, Try.ntmps73
  go_wp2
  go_loop [5, 6] (fun v i => ∃ k : Nat, k ≤ 8 ∧ i = .int .i64 ((k : Int) - 1) ∧ v = .int .u64 (lowFirst s (a + k) (8 - k) : Nat)) (fun _ i => (intOf i + 1).toNat)
  case atStart => exact ⟨8, by omega, rfl, rfl⟩
  case round =>
    obtain ⟨k, hk, rfl, rfl⟩ := hrel
    by_cases hlt : 1 ≤ k
    · obtain ⟨j, rfl⟩ : ∃ j, k = j + 1 := ⟨k - 1, by omega⟩
      have hx := lowFirst_lt s (8 - (j + 1)) (a + (j + 1))
      have hx2 : lowFirst s (a + (j + 1)) (8 - (j + 1)) < 72057594037927936 := Nat.lt_of_lt_of_le hx (by
        have : 256 ^ (8 - (j + 1)) ≤ 256 ^ 7 := Nat.pow_le_pow_right (by omega) (by omega)
        simpa using this)
      clear hx
      have HS : Hid (lowFirst s (a + j) (8 - j) = byteAt s (a + j) + 256 * lowFirst s (a + (j + 1)) (8 - (j + 1))) := by
        show _ = _
        rw [show 8 - j = (8 - (j + 1)) + 1 by omega, lowFirst, Nat.add_assoc a j 1]
      generalize lowFirst s (a + (j + 1)) (8 - (j + 1)) = x at *
      have e1 : (((j + 1 : Nat) : Int) - 1) = (j : Int) := by omega
      rw [e1]
      by_cases hin : a + j < s.size
      · go_wp2
        go_round
        case rel =>
          refine ⟨j, by omega, rfl, ?_⟩
          rw [HS.out, word_step1 s _ x hin hx2]
        case measure => simp [intOf]
      · go_wp2
        go_round
        case rel =>
          refine ⟨j, by omega, rfl, ?_⟩
          rw [HS.out, word_step0 s _ x hin]
        case measure => simp [intOf]
    · have : k = 0 := by omega
      subst this
      go_wp2
      go_ret
      exact ⟨rfl, rfl⟩

end Go.Proofs.Ytnkicbopebgppaa
