import Derived.Test.YtnkicbopebgppabP01
namespace Go.Proofs.Ytnkicbopebgppab
open Go.RowKit Fl

theorem iter_last {α : Type} (f : α → α) (n : Nat) : ∀ x, iter f (n + 1) x = f (iter f n x) := by
  induction n with
  | zero => intro x; rfl
  | succ n ih => intro x; exact ih (f x)

theorem sipRounds_last (n : Nat) (s : S4) : sipRounds (n + 1) s = sipRound (sipRounds n s) := iter_last sipRound n s

set_option maxHeartbeats 400000 in
theorem stir_any (b : Nat) (s : S4) (n : Int) (w : World) (h0 : 0 ≤ n) (h1 : n ≤ 100) (hs : s.ok) (h : SipAt w b 0 s) :
    Calls Try.prog 74 #[.pointer (some ⟨b, 0, none⟩), .int .i64 n] w fun e w' => e = .returned (.tuple #[]) ∧ SipAt w' b 0 (sipRounds n.toNat s) ∧ Only b w w' := by
  obtain ⟨n, rfl⟩ := Int.eq_ofNat_of_zero_le h0
  rw [Int.toNat_natCast]
  go_enter Try.func74, Try.ntmps74
  go_wp2_with fail
  go_loopw [4] (fun i wr => ∃ k : Nat, k ≤ n ∧ i = .int .i64 k ∧ SipAt wr b 0 (sipRounds k s) ∧ Only b w wr) (fun i _ => n - (intOf i).toNat)
  case atStart => exact ⟨0, Nat.zero_le _, rfl, h, Only.refl _ _⟩
  case round =>
    obtain ⟨k, hk, rfl, hat, honly⟩ := hrel
    by_cases hlt : k < n
    · go_wp2_with (go_at_call 87; refine (round_any b _ _ (sipRounds_ok k s hs) hat).mono ?_; rintro e w1 ⟨rfl, hat1, ho1⟩)
      go_roundw
      case rel => exact ⟨k + 1, by omega, by go_num, by rw [sipRounds_last]; exact hat1, honly.trans ho1⟩
      case measure => simp [intOf]; omega
    · have : k = n := by omega
      subst this
      go_wp2_with fail
      go_end0
      exact ⟨rfl, hat, honly⟩

set_option maxHeartbeats 400000 in
theorem take_any (b m : Nat) (s : S4) (w : World) (hm : m < 18446744073709551616) (hs : s.ok) (h : SipAt w b 0 s) :
    Calls Try.prog 73 #[.pointer (some ⟨b, 0, none⟩), .int .u64 m] w fun e w' => e = .returned (.tuple #[]) ∧ SipAt w' b 0 (sipTake s m) ∧ Only b w w' := by
  obtain ⟨hh0, hh1, hh2, hh3, hf⟩ := h
  obtain ⟨ha, hb, hc, hd⟩ := hs
  simp only [Nat.zero_add] at hh1 hh2 hh3
  obtain ⟨x, hx, ex, Hx⟩ := mk_xor s.d m hd hm
  go_enter Try.func73, Try.ntmps73
  go_wp2_with fail
  refine (stir_any b ⟨s.a, s.b, s.c, x⟩ 2 _ (by decide) (by decide) ⟨ha, hb, hc, hx⟩ ?_).mono ?_
  · refine ⟨?_, ?_, ?_, ?_, ?_⟩ <;> go_simp
  rintro e w1 ⟨rfl, hat, ho⟩
  have hok := sipRounds_ok 2 ⟨s.a, s.b, s.c, x⟩ ⟨ha, hb, hc, hx⟩
  have ht : sipTake s m = ⟨(sipRounds 2 ⟨s.a, s.b, s.c, x⟩).a ^^^ m, (sipRounds 2 ⟨s.a, s.b, s.c, x⟩).b, (sipRounds 2 ⟨s.a, s.b, s.c, x⟩).c, (sipRounds 2 ⟨s.a, s.b, s.c, x⟩).d⟩ := by
    rw [Hx.out]; rfl
  have Ht := ht
  rw [show (2 : Int).toNat = 2 from rfl] at hat
  generalize sipRounds 2 ⟨s.a, s.b, s.c, x⟩ = t at *
  have Ht : Hid (sipTake s m = ⟨t.a ^^^ m, t.b, t.c, t.d⟩) := ht
  clear ht
  obtain ⟨g0, g1, g2, g3, gf⟩ := hat
  simp only [Nat.zero_add] at g1 g2 g3
  obtain ⟨y, hy, ey, Hy⟩ := mk_xor t.a m hok.1 hm
  go_wp2_with fail
  go_end0
  refine ⟨rfl, ?_, ?_⟩
  · rw [Ht.out, ← Hy.out]
    refine ⟨?_, ?_, ?_, ?_, ?_⟩ <;> go_simp
  · exact (((Only.refl b w).setCell 3 _).trans ho).setCell 0 _

theorem eights_last {α : Type} (f : Nat → α → α) (n : Nat) : ∀ k x, eights f (n + 1) k x = f (k + 8 * n) (eights f n k x) := by
  induction n with
  | zero => intro k x; rfl
  | succ n ih => intro k x; rw [eights, ih (k + 8) (f k x), eights]; congr 1; omega

theorem sipWords_last (t : ByteArray) (n : Nat) (s : S4) : sipWords t (n + 1) 0 s = sipTake (sipWords t n 0 s) (word8 t (8 * n)) := by
  unfold sipWords
  rw [eights_last, Nat.zero_add]

theorem _root_.Go.RowKit.Below.only {B b : Nat} {u w w' : World} (h : Below B u w) (ho : Only b w w') (hB : B ≤ b) (hs : B ≤ w.heap.size) : Below B u w' :=
  h.trans ⟨ho.os, ho.tape, ho.output, ho.size, fun k hk => ho.block k (by omega) (by omega)⟩

theorem last_or (x n : Nat) (hx : x < 72057594037927936) (hn : n < 256) : bits .or .u64 (x : Int) ((n : Int) * 72057594037927936) = ((x + n % 256 * 72057594037927936 : Nat) : Int) := by
  rw [show (n : Int) * 72057594037927936 = ((n * 72057594037927936 : Nat) : Int) by simp, u64_or_nat _ _ (by omega) (by omega), Nat.or_comm, nat_join 56 _ _ ?_ ?_, Nat.mod_eq_of_lt hn, Nat.add_comm]
  · rw [show (2 : Nat) ^ 56 = 72057594037927936 by decide]; omega
  · rw [show (2 : Nat) ^ 56 = 72057594037927936 by decide]; exact hx

def HashRel (t : ByteArray) (s0 : S4) (w2 : World) (vi : Value) (wr : World) : Prop :=
  ∃ k : Nat, 8 * k ≤ t.size ∧ vi = .int .i64 (8 * (k : Int)) ∧ SipAt wr w2.heap.size 0 (sipWords t k 0 s0) ∧ Below w2.heap.size w2 wr ∧ w2.heap.size < wr.heap.size

set_option maxHeartbeats 8000000 in
theorem hash_any (key t : ByteArray) (H : Nat) (w : World) (hk : key.size = 16) (ht : t.size ≤ 200) (hH : Bx (sipHash key t = H)) :
    Calls Try.prog 59 #[.string key, .string t] w fun e w' => e = .returned (.int .u64 H) ∧ Below w.heap.size w w' := by
  obtain ⟨k0, hk0, Hk0⟩ : ∃ x : Nat, x < 18446744073709551616 ∧ Bx (word8 key 0 = x) := ⟨_, word8_lt _ _, ⟨rfl⟩⟩
  obtain ⟨k1, hk1, Hk1⟩ : ∃ x : Nat, x < 18446744073709551616 ∧ Bx (word8 key 8 = x) := ⟨_, word8_lt _ _, ⟨rfl⟩⟩
  obtain ⟨a, ha, ea, Ha⟩ : ∃ z : Nat, z < 18446744073709551616 ∧ bits .xor .u64 (k0 : Int) 8317987319222330741 = (z : Int) ∧ Bx (z = k0 ^^^ 8317987319222330741) := mk_xor k0 8317987319222330741 hk0 (by decide)
  obtain ⟨b, hb, eb, Hb⟩ : ∃ z : Nat, z < 18446744073709551616 ∧ bits .xor .u64 (k1 : Int) 7237128888997146477 = (z : Int) ∧ Bx (z = k1 ^^^ 7237128888997146477) := mk_xor k1 7237128888997146477 hk1 (by decide)
  obtain ⟨c, hc, ec, Hc⟩ : ∃ z : Nat, z < 18446744073709551616 ∧ bits .xor .u64 (k0 : Int) 7816392313619706465 = (z : Int) ∧ Bx (z = k0 ^^^ 7816392313619706465) := mk_xor k0 7816392313619706465 hk0 (by decide)
  obtain ⟨d, hd, ed, Hd⟩ : ∃ z : Nat, z < 18446744073709551616 ∧ bits .xor .u64 (k1 : Int) 8387220255154660723 = (z : Int) ∧ Bx (z = k1 ^^^ 8387220255154660723) := mk_xor k1 8387220255154660723 hk1 (by decide)
  have HS : Bx (sipStart key = ⟨a, b, c, d⟩) := by
    refine ⟨?_⟩
    unfold sipStart
    rw [Hk0.out, Hk1.out, Ha.out, Hb.out, Hc.out, Hd.out]
  have hsok : S4.ok ⟨a, b, c, d⟩ := ⟨ha, hb, hc, hd⟩
  have hk2 : key.size ≤ 16 := by omega
  clear hk
  go_enter Try.func59, Try.ntmps59
  go_wp2_with fail
  refine (word_any key 0 _ (by decide) (by decide) (by unfold maxLen; omega)).mono ?_
  rintro e w1 ⟨rfl, rfl⟩
  rw [show (0 : Int).toNat = 0 from rfl, Hk0.out]
  go_wp2_with fail
  refine (word_any key 8 _ (by decide) (by decide) (by unfold maxLen; omega)).mono ?_
  rintro e w2 ⟨rfl, rfl⟩
  rw [show (8 : Int).toNat = 8 from rfl, Hk1.out]
  go_wp2_with fail
  clear ea eb ec ed
  go_loopw [8, 9] (fun vi _ wr => HashRel t ⟨a, b, c, d⟩ w2 vi wr) (fun vi _ _ => t.size - (intOf vi).toNat)
  case atStart =>
    refine ⟨0, by omega, rfl, ⟨?_, ?_, ?_, ?_, ?_⟩, ?_, by simp⟩
    · go_simp; rfl
    · go_simp; rfl
    · go_simp; rfl
    · go_simp; rfl
    · intro i; go_simp
    · exact (Below.refl _ _).alloc (Nat.le_refl _) _
  case round =>
    obtain ⟨k, hkk, rfl, hat, hbl, hsz⟩ := hrel
    by_cases hlt : 8 * k + 8 ≤ t.size
    · go_wp2_with fail
      refine (word_any t _ _ (by omega) (by omega) (by unfold maxLen; omega)).mono ?_
      rintro e w3 ⟨rfl, rfl⟩
      rw [show (8 * (k : Int)).toNat = 8 * k by omega]
      go_wp2_with fail
      refine (take_any w2.heap.size (word8 t (8 * k)) _ _ (word8_lt _ _) (sipWords_ok t k 0 _ hsok) hat).mono ?_
      rintro e w4 ⟨rfl, hat4, ho4⟩
      go_wp2_with fail
      exact ⟨⟨k + 1, by omega, by go_num, by rw [sipWords_last]; exact hat4, hbl.only ho4 (Nat.le_refl _) (by omega), by have := ho4.size; omega⟩, by simp [intOf]; omega⟩
    · have hk8 : t.size / 8 = k := by omega
      have hwl := word8_last_lt t (8 * k) (by omega)
      have el := last_or (word8 t (8 * k)) t.size hwl (by omega)
      obtain ⟨m, hm, em, Hm⟩ : ∃ m : Nat, m < 18446744073709551616 ∧ Bx (bits .or .u64 ((word8 t (8 * k) : Nat) : Int) ((t.size : Int) * 72057594037927936) = m) ∧ Bx (word8 t (8 * k) + t.size % 256 * 72057594037927936 = m) := ⟨_, by omega, ⟨el⟩, ⟨rfl⟩⟩
      clear el
      have hok2 := sipWords_ok t k 0 _ hsok
      have HH : Bx (sipEnd (sipTake (sipWords t k 0 ⟨a, b, c, d⟩) m) = H) := by
        refine ⟨?_⟩
        rw [← hH.out]
        unfold sipHash
        simp only []
        rw [hk8, HS.out, Hm.out]
      clear hk8
      go_wp2_with fail
      refine (word_any t _ _ (by omega) (by omega) (by unfold maxLen; omega)).mono ?_
      rintro e w3 ⟨rfl, rfl⟩
      rw [show (8 * (k : Int)).toNat = 8 * k by omega]
      go_wp2_with fail
      rw [em.out]
      refine (take_any w2.heap.size m _ _ hm hok2 hat).mono ?_
      rintro e w4 ⟨rfl, hat4, ho4⟩
      have hok4 := sipTake_ok _ m hok2 hm
      generalize sipTake (sipWords t k 0 ⟨a, b, c, d⟩) m = q at *
      obtain ⟨g0, g1, g2, g3, gf⟩ := hat4
      simp only [Nat.zero_add] at g1 g2 g3
      obtain ⟨x, hx, ex, Hx⟩ : ∃ z : Nat, z < 18446744073709551616 ∧ bits .xor .u64 (q.c : Int) 255 = (z : Int) ∧ Bx (z = q.c ^^^ 255) := mk_xor q.c 255 hok4.2.2.1 (by decide)
      have hqok : S4.ok ⟨q.a, q.b, x, q.d⟩ := ⟨hok4.1, hok4.2.1, hx, hok4.2.2.2⟩
      go_wp2_with fail
      refine (stir_any w2.heap.size ⟨q.a, q.b, x, q.d⟩ 4 _ (by decide) (by decide) hqok ?_).mono ?_
      · refine ⟨?_, ?_, ?_, ?_, ?_⟩ <;> go_simp
      rintro e w5 ⟨rfl, hat5, ho5⟩
      rw [show (4 : Int).toNat = 4 from rfl] at hat5
      have hok5 := sipRounds_ok 4 _ hqok
      have HE : Bx ((sipRounds 4 ⟨q.a, q.b, x, q.d⟩).a ^^^ (sipRounds 4 ⟨q.a, q.b, x, q.d⟩).b ^^^ (sipRounds 4 ⟨q.a, q.b, x, q.d⟩).c ^^^ (sipRounds 4 ⟨q.a, q.b, x, q.d⟩).d = H) := by
        refine ⟨?_⟩
        rw [← HH.out, Hx.out]
        rfl
      generalize sipRounds 4 ⟨q.a, q.b, x, q.d⟩ = r at *
      obtain ⟨f0, f1, f2, f3, ff⟩ := hat5
      simp only [Nat.zero_add] at f1 f2 f3
      obtain ⟨y1, hy1, ey1, Hy1⟩ := mk_xor r.a r.b hok5.1 hok5.2.1
      obtain ⟨y2, hy2, ey2, Hy2⟩ := mk_xor y1 r.c hy1 hok5.2.2.1
      obtain ⟨y3, hy3, ey3, Hy3⟩ := mk_xor y2 r.d hy2 hok5.2.2.2
      have HY : Bx (y3 = H) := by refine ⟨?_⟩; rw [Hy3.out, Hy2.out, Hy1.out, HE.out]
      go_wp2_with fail
      go_ret
      refine ⟨by rw [← HY.out]; rfl, ?_⟩
      exact ((hbl.only ho4 (Nat.le_refl _) (by omega)).only ((Only.refl _ _).setCell 2 _) (Nat.le_refl _) (by have := ho4.size; omega)).only ho5 (Nat.le_refl _) (by have := ho4.size; simp [World.setCell]; omega)

end Go.Proofs.Ytnkicbopebgppab
