import Derived.Test.YtnkicbopebgppaaProg
import Derived.Test.YtnkicbopebgppaaP01
namespace Go.Proofs.Ytnkicbopebgppaa
open Go.RowKit Fl

theorem mask32 (x : Nat) (hx : x < 18446744073709551616) : bits .and .u64 (x : Int) 4294967295 = ((x % 4294967296 : Nat) : Int) := by
  have := u64_and_nat x 4294967295 hx (by decide)
  rw [show ((4294967295 : Nat) : Int) = 4294967295 from rfl] at this
  rw [this]
  have h2 := Nat.and_two_pow_sub_one_eq_mod x 32
  rw [show (2 : Nat) ^ 32 - 1 = 4294967295 by decide, show (2 : Nat) ^ 32 = 4294967296 by decide] at h2
  rw [h2]

theorem shl32 (x y : Nat) (hy : y < 4294967296) : bits .or .u64 (IntKind.u64.wrap ((x : Int) * 4294967296)) (y : Int) = ((x % 4294967296 * 4294967296 + y : Nat) : Int) := by
  have e : IntKind.u64.wrap ((x : Int) * 4294967296) = ((x % 4294967296 * 4294967296 : Nat) : Int) := by
    rw [IntKind.wrap_u64]; omega
  rw [e, u64_or_nat _ _ (by omega) (by omega), nat_join 32 _ _ (by rw [show (2 : Nat) ^ 32 = 4294967296 by decide]; omega) (by rw [show (2 : Nat) ^ 32 = 4294967296 by decide]; omega)]

set_option maxHeartbeats 800000 in
theorem multiply_any (a b : Nat) (w : World) (ha : a < 18446744073709551616) (hb : b < 18446744073709551616) :
    Calls Try.prog 99 #[.int .u64 a, .int .u64 b] w fun e w' => e = .returned (.agg #[.int .u64 (hi64 (a * b) : Nat), .int .u64 (lo64 (a * b) : Nat)]) ∧ Below w.heap.size w w' := by
  obtain ⟨a1, a0, ha1, ha0, ea1, ea0, Ha⟩ : ∃ a1 a0 : Nat, a1 < 4294967296 ∧ a0 < 4294967296 ∧ (a : Int) / 4294967296 = a1 ∧ bits .and .u64 (a : Int) 4294967295 = (a0 : Int) ∧ Hid (a = a1 * 4294967296 + a0) :=
    ⟨a / 4294967296, a % 4294967296, by omega, by omega, by omega, mask32 a ha, by show _ = _; omega⟩
  obtain ⟨b1, b0, hb1, hb0, eb1, eb0, Hb⟩ : ∃ a1 a0 : Nat, a1 < 4294967296 ∧ a0 < 4294967296 ∧ (b : Int) / 4294967296 = a1 ∧ bits .and .u64 (b : Int) 4294967295 = (a0 : Int) ∧ Hid (b = a1 * 4294967296 + a0) :=
    ⟨b / 4294967296, b % 4294967296, by omega, by omega, by omega, mask32 b hb, by show _ = _; omega⟩
  obtain ⟨m1, m2, m3, m4, m5, m6, m7, m8, m9⟩ := mul_halves a1 a0 b1 b0 ha0 hb0 ha1 hb1
  rw [← Ha.out, ← Hb.out] at m9
  have M9 := Eq.symm m9
  clear m9
  obtain ⟨p00, e00, H00⟩ : ∃ p : Nat, (a0 : Int) * b0 = p ∧ Hid (p = a0 * b0) := ⟨a0 * b0, by simp, rfl⟩
  obtain ⟨p01, e01, H01⟩ : ∃ p : Nat, (a0 : Int) * b1 = p ∧ Hid (p = a0 * b1) := ⟨a0 * b1, by simp, rfl⟩
  obtain ⟨p10, e10, H10⟩ : ∃ p : Nat, (a1 : Int) * b0 = p ∧ Hid (p = a1 * b0) := ⟨a1 * b0, by simp, rfl⟩
  obtain ⟨p11, e11, H11⟩ : ∃ p : Nat, (a1 : Int) * b1 = p ∧ Hid (p = a1 * b1) := ⟨a1 * b1, by simp, rfl⟩
  rw [← H00.out, ← H01.out, ← H10.out, ← H11.out] at M9
  rw [← H00.out, ← H10.out] at m1
  rw [← H01.out, ← H00.out, ← H10.out] at m2
  rw [← H00.out] at m3
  rw [← H11.out] at m4
  rw [← H10.out] at m5
  rw [← H01.out] at m6
  rw [← H00.out, ← H10.out, ← H01.out, ← H11.out] at m7
  rw [← H00.out, ← H10.out, ← H11.out] at m8
  obtain ⟨d, hd, ed, Hd⟩ : ∃ d : Nat, d < 4294967296 ∧ bits .and .u64 ((p10 : Int) + (p00 : Int) / 4294967296) 4294967295 = d ∧ Hid (d = (p10 + p00 / 4294967296) % 4294967296) :=
    ⟨_, Nat.mod_lt _ (by decide), by rw [← mask32 _ m1]; congr 1, rfl⟩
  obtain ⟨l, hl, el, Hl⟩ : ∃ d : Nat, d < 4294967296 ∧ bits .and .u64 (p00 : Int) 4294967295 = d ∧ Hid (d = p00 % 4294967296) :=
    ⟨_, Nat.mod_lt _ (by decide), mask32 _ m3, rfl⟩
  rw [← Hd.out, ← Hl.out] at M9
  have M9h : Hid (_ = _) := M9
  clear M9
  rw [← Hd.out] at m2 m7
  go_enter Try.func99, Try.ntmps99
  go_wp2
  have e2 := shl32 (p01 + d) l hl
  rw [show (((p01 + d : Nat) : Int)) = (p01 : Int) + d by omega] at e2
  refine bodyPost_ret (v := .agg #[.int .u64 ((p11 : Int) + ((p10 : Int) + (p00 : Int) / 4294967296) / 4294967296 + ((p01 : Int) + d) / 4294967296), .int .u64 (bits .or .u64 (IntKind.u64.wrap (((p01 : Int) + d) * 4294967296)) l)]) (by simp [results, Try.results99, go_sem]) rfl ⟨?_, ?_⟩
  · rw [e2, hi64_of (a * b) _ _ ?_ M9h.out, lo64_of (a * b) _ _ ?_ M9h.out]
    · simp
    · omega
    · omega
  · exact (Below.refl _ _).alloc (Nat.le_refl _) _

set_option maxHeartbeats 400000 in
theorem square_any (a : Nat) (w : World) (ha : a < 18446744073709551616) :
    Calls Try.prog 93 #[.int .u64 a] w fun e w' => e = .returned (.agg #[.int .u64 (hi64 (a * a) : Nat), .int .u64 (lo64 (a * a) : Nat)]) ∧ Below w.heap.size w w' := by
  go_enter Try.func93, Try.ntmps93
  go_wp2_with fail
  refine (multiply_any a a _ ha ha).mono ?_
  rintro e w1 ⟨rfl, hb⟩
  obtain ⟨hc, hf⟩ := bcell hb
  have hz : w.heap.size < w1.heap.size := by have := hb.size; simp at this; omega
  go_wp2_with fail
  refine bodyPost_ret (v := .agg #[.int .u64 (hi64 (a * a) : Nat), .int .u64 (lo64 (a * a) : Nat)]) (by simp [results, Try.results93, go_sem, hc]) rfl ⟨rfl, ?_⟩
  exact ((((Below.refl _ _).alloc (Nat.le_refl _) _).trans (hb.mono (by simp))).setCell (by simp) _).setCell (by simp) _

set_option maxHeartbeats 800000 in
theorem times_any (v n : Nat) (w : World) (hn : n < 18446744073709551616) (h : v * n < 340282366920938463463374607431768211456) :
    Calls Try.prog 94 #[.agg #[.int .u64 (hi64 v : Nat), .int .u64 (lo64 v : Nat)], .int .u64 n] w fun e w' => e = .returned (.agg #[.int .u64 (hi64 (v * n) : Nat), .int .u64 (lo64 (v * n) : Nat)]) ∧ Below w.heap.size w w' := by
  obtain ⟨t1, t2, t3, t4⟩ := times_hilo v n h
  obtain ⟨p, ep, Hp⟩ : ∃ p : Nat, ((hi64 v : Nat) : Int) * n = p ∧ Hid (p = hi64 v * n) := ⟨_, by simp, rfl⟩
  rw [← Hp.out] at t1 t3 t4
  have T1 : Hid (_ = _) := t1
  have T2 : Hid (_ = _) := t2
  clear t1 t2
  go_enter Try.func94, Try.ntmps94
  go_wp2_with fail
  refine (multiply_any (lo64 v) n _ (lo64_lt _) hn).mono ?_
  rintro e w1 ⟨rfl, hb⟩
  obtain ⟨hc, hf⟩ := bcell hb
  have hz : w.heap.size + 1 < w1.heap.size := by have := hb.size; simp at this; omega
  have hz0 : w.heap.size < w1.heap.size := by omega
  go_wp2_with fail
  refine bodyPost_ret (v := .agg #[.int .u64 (((hi64 (lo64 v * n) : Nat) : Int) + p), .int .u64 ((lo64 (lo64 v * n) : Nat) : Int)]) (by simp [results, Try.results94, go_sem, hc, hz]) rfl ⟨?_, ?_⟩
  · rw [T2.out, ← T1.out]; simp
  · exact ((((((Below.refl _ _).alloc (Nat.le_refl _) _).alloc (by simp) _).trans (hb.mono (by simp; omega))).setCell (by simp) _).setCell (by simp) _).alloc (by simp [World.setCell]; omega) _

set_option maxHeartbeats 400000 in
theorem atMost_yes (m n : Nat) (w : World) (h : m ≤ n) :
    Calls Try.prog 95 #[.agg #[.int .u64 (hi64 m : Nat), .int .u64 (lo64 m : Nat)], .agg #[.int .u64 (hi64 n : Nat), .int .u64 (lo64 n : Nat)]] w fun e w' => e = .returned (.bool true) ∧ Below w.heap.size w w' := by
  rcases (hilo_le m n).2 h with h1 | ⟨h1, h2⟩
  · go_enter Try.func95, Try.ntmps95
    go_wp2
    go_ret
    exact ⟨rfl, ((Below.refl _ _).alloc (Nat.le_refl _) _).alloc (by simp) _⟩
  · have h3 : ¬ hi64 m < hi64 n := by omega
    have h4 : (((hi64 m : Nat) : Int) == ((hi64 n : Nat) : Int)) = true := by rw [h1]; simp
    have H1 : Hid (hi64 m = hi64 n) := h1
    clear h1 h
    go_enter Try.func95, Try.ntmps95
    go_wp2
    go_ret
    exact ⟨rfl, ((Below.refl _ _).alloc (Nat.le_refl _) _).alloc (by simp) _⟩

set_option maxHeartbeats 400000 in
theorem atMost_no (m n : Nat) (w : World) (h : ¬ m ≤ n) :
    Calls Try.prog 95 #[.agg #[.int .u64 (hi64 m : Nat), .int .u64 (lo64 m : Nat)], .agg #[.int .u64 (hi64 n : Nat), .int .u64 (lo64 n : Nat)]] w fun e w' => e = .returned (.bool false) ∧ Below w.heap.size w w' := by
  have h0 : ¬ hi64 m < hi64 n := fun e => h ((hilo_le m n).1 (.inl e))
  by_cases h1 : hi64 m = hi64 n
  · have h2 : ¬ lo64 m ≤ lo64 n := fun e => h ((hilo_le m n).1 (.inr ⟨h1, e⟩))
    have h4 : (((hi64 m : Nat) : Int) == ((hi64 n : Nat) : Int)) = true := by rw [h1]; simp
    have H1 : Hid (hi64 m = hi64 n) := h1
    clear h1 h
    go_enter Try.func95, Try.ntmps95
    go_wp2
    go_ret
    exact ⟨rfl, ((Below.refl _ _).alloc (Nat.le_refl _) _).alloc (by simp) _⟩
  · have h4 : (((hi64 m : Nat) : Int) == ((hi64 n : Nat) : Int)) = false := by rw [beq_eq_false_iff_ne]; omega
    clear h
    go_enter Try.func95, Try.ntmps95
    go_wp2
    go_ret
    exact ⟨rfl, ((Below.refl _ _).alloc (Nat.le_refl _) _).alloc (by simp) _⟩

end Go.Proofs.Ytnkicbopebgppaa

namespace Go.Proofs.Ytnkicbopebgppaa
open Go.RowKit Fl

theorem sq_bd (y c : Nat) (hy : y ≤ 2199023255552) (hc : c ≤ 4294967295) : y * y * c < 340282366920938463463374607431768211456 := by
  have h1 : y * y ≤ 2199023255552 * 2199023255552 := Nat.mul_le_mul hy hy
  have h2 : y * y * c ≤ 2199023255552 * 2199023255552 * 4294967295 := Nat.mul_le_mul h1 hc
  omega

theorem pow_bd (j : Nat) (hj : j + 1 ≤ 41) : 2 ^ j ≤ 1099511627776 := by
  have := Nat.pow_le_pow_right (show 0 < 2 by omega) (show j ≤ 40 by omega)
  rw [show (2 : Nat) ^ 40 = 1099511627776 by decide] at this
  exact this

set_option maxHeartbeats 800000 in
theorem of_any (I n : Nat) (w : World) (hI : 1 ≤ I) (hI2 : I ≤ 1099511627776) (hn : 1 ≤ n) (hn2 : n ≤ 4294967295) :
    Calls Try.prog 90 #[.int .i64 I, .int .i64 n] w fun e w' => e = .returned (.int .i64 (stepOf I n : Nat)) ∧ Below w.heap.size w w' := by
  have d1 : decide ((I : Int) < 1) = false := by simp; omega
  have d2 : decide ((1099511627776 : Int) < I) = false := by simp; omega
  have d3 : decide ((n : Int) < 1) = false := by simp; omega
  have d4 : decide ((4294967295 : Int) < n) = false := by simp; omega
  have HG : Hid (stepOf I n = grow (I * I) n 41 0) := by show _ = _; unfold stepOf; rw [if_pos hn2]
  go_enter Try.func90, Try.ntmps90
  go_wp2_with fail
  refine (square_any I _ (by omega)).mono ?_
  rintro e w1 ⟨rfl, hb⟩
  go_wp2_with fail
  go_loopw [6, 7] (fun v i wr => ∃ k x : Nat, k ≤ 41 ∧ v = .int .u64 x ∧ i = .int .u64 (2 ^ k / 2 : Nat) ∧ x + 2 ^ k ≤ 2199023255552 ∧ Hid (grow (I * I) n k x = grow (I * I) n 41 0) ∧
      wr.cell? ⟨w1.heap.size, 0, none⟩ = some (.int .u64 (hi64 (I * I) : Nat)) ∧ wr.cell? ⟨w1.heap.size, 1, none⟩ = some (.int .u64 (lo64 (I * I) : Nat)) ∧ Below w.heap.size w wr ∧ w1.heap.size < wr.heap.size) (fun _ i _ => (intOf i).toNat)
  case atStart => exact ⟨41, 0, by omega, rfl, rfl, by decide, rfl, by go_simp, by go_simp, hb.alloc (by have := hb.size; omega) _, by simp⟩
  case round =>
    obtain ⟨k, x, hk, rfl, rfl, hx, HK, hc0, hc1, hbl, hsz⟩ := hrel
    by_cases hk0 : k = 0
    · subst hk0
      simp only [Nat.pow_zero, Nat.reduceDiv, Int.ofNat_zero]
      go_wp2_with fail
      go_ret
      exact ⟨ret_int (by have := HK.out; rw [grow] at this; rw [HG.out, ← this]), hbl⟩
    · obtain ⟨j, rfl⟩ : ∃ j, k = j + 1 := ⟨k - 1, by omega⟩
      have hB := pow_bd j hk
      have hBp := Nat.two_pow_pos j
      rw [show 2 ^ (j + 1) / 2 = 2 ^ j by rw [Nat.pow_succ]; omega]
      rw [Nat.pow_succ] at hx
      have HJ : Hid (grow (I * I) n j (if (x + 2 ^ j) * (x + 2 ^ j) * n ≤ I * I then x + 2 ^ j else x) = grow (I * I) n 41 0) := by
        have := HK.out; rw [grow] at this; exact this
      clear HK
      generalize hBq : 2 ^ j = B at *
      have HB : Hid (2 ^ j = B) := hBq
      clear hBq
      obtain ⟨y, ey, Hy⟩ : ∃ y : Nat, (x : Int) + B = y ∧ Hid (x + B = y) := ⟨x + B, by simp, rfl⟩
      have hy : y ≤ 2199023255552 := by have := Hy.out; omega
      have hy2 : B ≤ y := by have := Hy.out; omega
      rw [Hy.out] at HJ
      have hbd := sq_bd y n hy hn2
      go_wp2_with fail
      refine (square_any y _ (by omega)).mono ?_
      rintro e w2 ⟨rfl, hb2⟩
      go_wp2_with fail
      refine (times_any (y * y) n _ (by omega) hbd).mono ?_
      rintro e w3 ⟨rfl, hb3⟩
      have hb23 : Below wr.heap.size wr w3 := hb2.trans (hb3.mono hb2.size)
      obtain ⟨hcc, hff⟩ := bcell hb23
      have hs3 : w1.heap.size < w3.heap.size := by have := hb23.size; omega
      by_cases hle : y * y * n ≤ I * I
      · rw [if_pos hle] at HJ
        go_wp2_with fail
        refine (atMost_yes (y * y * n) (I * I) _ hle).mono ?_
        rintro e w4 ⟨rfl, hb4⟩
        go_wp2_with fail
        have hbA : Below wr.heap.size wr w4 := (hb23.alloc hb23.size _).trans (hb4.mono (by have := hb23.size; simp; omega))
        have hlast := Hy.out
        exact ⟨⟨j, y, by omega, rfl, by rw [HB.out]; simp, by rw [HB.out]; omega, HJ, (hbA.cell (p := ⟨_, _, _⟩) hsz).trans hc0, (hbA.cell (p := ⟨_, _, _⟩) hsz).trans hc1, hbl.trans (hbA.mono hbl.size), by have := hbA.size; omega⟩, by simp [intOf]; omega⟩
      · rw [if_neg hle] at HJ
        go_wp2_with fail
        refine (atMost_no (y * y * n) (I * I) _ hle).mono ?_
        rintro e w4 ⟨rfl, hb4⟩
        go_wp2_with fail
        have hbA : Below wr.heap.size wr w4 := (hb23.alloc hb23.size _).trans (hb4.mono (by have := hb23.size; simp; omega))
        have hlast := Hy.out
        exact ⟨⟨j, x, by omega, rfl, by rw [HB.out]; simp, by rw [HB.out]; omega, HJ, (hbA.cell (p := ⟨_, _, _⟩) hsz).trans hc0, (hbA.cell (p := ⟨_, _, _⟩) hsz).trans hc1, hbl.trans (hbA.mono hbl.size), by have := hbA.size; omega⟩, by simp [intOf]; omega⟩

end Go.Proofs.Ytnkicbopebgppaa

namespace Go.Proofs.Ytnkicbopebgppaa
open Go.RowKit Fl

set_option maxHeartbeats 400000 in
theorem pair_any (s : ByteArray) (a : Int) (w : World) (h0 : 0 ≤ a) (h1 : a + 1 < s.size) (hs : s.size ≤ maxLen) :
    Calls Try.prog 83 #[.string s, .int .i64 a] w fun e w' => e = .returned (.int .i64 (be16 s a.toNat : Nat)) ∧ Below w.heap.size w w' := by
  obtain ⟨a, rfl⟩ := Int.eq_ofNat_of_zero_le h0
  rw [Int.toNat_natCast]
  unfold maxLen at hs
  have h2 : a < s.size := by omega
  have h3 : a + 1 < s.size := by omega
  obtain ⟨b, eb, hb, Hb⟩ : ∃ b : Nat, IntKind.i64.wrap ((a : Int) + 1) = (b : Int) ∧ b < s.size ∧ Hid (a + 1 = b) := ⟨a + 1, by rw [← wrap_i64_in (a + 1) (by omega)]; congr 1, h3, rfl⟩
  have hb2 : (b : Int) < s.size := by omega
  have hx1 := byteAt_lt s a
  have hy1 := byteAt_lt s b
  obtain ⟨x, hx, ex, Hx⟩ : ∃ x : Nat, x < 256 ∧ IntKind.i64.wrap ((s[a].toNat : Nat) : Int) = x ∧ Hid (byteAt s a = x) := ⟨byteAt s a, hx1, by rw [byteAt_eq]; exact wrap_i64_in _ (by omega), rfl⟩
  obtain ⟨y, hy, ey, Hy⟩ : ∃ x : Nat, x < 256 ∧ IntKind.i64.wrap (((s[b]'hb).toNat : Nat) : Int) = x ∧ Hid (byteAt s b = x) := ⟨byteAt s b, hy1, by rw [byteAt_eq]; exact wrap_i64_in _ (by omega), rfl⟩
  obtain ⟨z, hz, ez, Hz⟩ : ∃ z : Nat, z < 65536 ∧ IntKind.i64.wrap ((x : Int) * 256) = z ∧ Hid (256 * x = z) := ⟨256 * x, by omega, by rw [← wrap_i64_in (256 * x) (by omega)]; congr 1; omega, rfl⟩
  have HR : Hid (bits .or .i64 (z : Int) (y : Int) = ((be16 s a : Nat) : Int)) := by
    show _ = _
    have e1 := Hz.out; have e2 := Hx.out; have e3 := Hy.out; have e4 := Hb.out
    rw [i64_or_nat _ _ (by omega) (by omega), nat_join 8 _ _ (by omega) (by omega), be16, e4, e3, e2, e1]
  clear hx1 hy1 h3
  go_enter Try.func83, Try.ntmps83
  go_wp2_with fail
  go_quiet (fail)
  go_wp2_with fail
  go_ret
  exact ⟨ret_int HR.out, Below.drewN (Below.refl _ _) _⟩

set_option maxHeartbeats 400000 in
theorem ports_any (s : ByteArray) (p : Nat) (w : World) (hs : s.size ≤ maxLen) :
    Calls Try.prog 85 #[.string s, .int .u8 p] w fun e w' => e = .returned (.string (portsOf s p)) ∧ w' = w := by
  unfold maxLen at hs
  by_cases h1 : p = 6
  · subst h1
    by_cases h2 : 4 ≤ s.size
    · have HP : Hid (portsOf s 6 = s.extract 0 4) := by show _ = _; simp [portsOf, h2]
      go_enter Try.func85, Try.ntmps85
      go_wp2
      go_ret
      exact ⟨by rw [HP.out]; rfl, rfl⟩
    · have HP : Hid (portsOf s 6 = ⟨#[]⟩) := by show _ = _; simp [portsOf, h2]
      go_enter Try.func85, Try.ntmps85
      go_wp2
      go_ret
      exact ⟨by rw [HP.out]; rfl, rfl⟩
  · have e1 : ((p : Int) != 6) = true := by rw [bne_iff_ne]; omega
    by_cases h3 : p = 17
    · subst h3
      by_cases h2 : 4 ≤ s.size
      · have HP : Hid (portsOf s 17 = s.extract 0 4) := by show _ = _; simp [portsOf, h2]
        go_enter Try.func85, Try.ntmps85
        go_wp2
        go_ret
        exact ⟨by rw [HP.out]; rfl, rfl⟩
      · have HP : Hid (portsOf s 17 = ⟨#[]⟩) := by show _ = _; simp [portsOf, h2]
        go_enter Try.func85, Try.ntmps85
        go_wp2
        go_ret
        exact ⟨by rw [HP.out]; rfl, rfl⟩
    · have e2 : ((p : Int) != 17) = true := by rw [bne_iff_ne]; omega
      have HP : Hid (portsOf s p = ⟨#[]⟩) := by show _ = _; simp [portsOf, h1, h3]
      go_enter Try.func85, Try.ntmps85
      go_wp2
      go_ret
      exact ⟨by rw [HP.out]; rfl, rfl⟩

set_option maxHeartbeats 400000 in
theorem isFurther_any (p : Nat) (w : World) (b : Bool) (hb : Hid (furtherB p = b)) :
    Calls Try.prog 86 #[.int .u8 p] w fun e w' => e = .returned (.bool b) ∧ w' = w := by
  have e0 : ((p : Int) == 0) = (p == 0) := by rw [Bool.eq_iff_iff]; simp
  have e1 : ((p : Int) == 43) = (p == 43) := by rw [Bool.eq_iff_iff]; simp; omega
  have e2 : ((p : Int) == 44) = (p == 44) := by rw [Bool.eq_iff_iff]; simp; omega
  have e3 : ((p : Int) == 60) = (p == 60) := by rw [Bool.eq_iff_iff]; simp; omega
  have HB : Hid (_ = b) := hb
  unfold furtherB at HB
  clear hb
  generalize (p == 0) = b0 at *
  generalize (p == 43) = b1 at *
  generalize (p == 44) = b2 at *
  generalize (p == 60) = b3 at *
  cases b0 <;> cases b1 <;> cases b2 <;> cases b3
  all_goals
    go_enter Try.func86, Try.ntmps86
    go_wp2
    go_ret
    exact ⟨by rw [← HB.out]; rfl, rfl⟩

set_option maxHeartbeats 400000 in
theorem furtherBytes_any (s : ByteArray) (p : Nat) (w : World) (hs : s.size ≤ maxLen) :
    Calls Try.prog 87 #[.string s, .int .u8 p] w fun e w' => e = .returned (.int .i64 (furtherLen s p : Nat)) ∧ w' = w := by
  unfold maxLen at hs
  by_cases h8 : s.size < 8
  · have HF : Hid (furtherLen s p = 0) := by show _ = _; simp [furtherLen, h8]
    go_enter Try.func87, Try.ntmps87
    go_wp2
    go_ret
    exact ⟨by rw [HF.out]; rfl, rfl⟩
  · by_cases hp : p = 44
    · subst hp
      have HF : Hid (furtherLen s 44 = 8) := by show _ = _; simp [furtherLen, h8]
      go_enter Try.func87, Try.ntmps87
      go_wp2
      go_ret
      exact ⟨by rw [HF.out]; rfl, rfl⟩
    · have e1 : ((p : Int) != 44) = true := by rw [bne_iff_ne]; omega
      have h1 : 1 < s.size := by omega
      have hy1 := byteAt_lt s 1
      obtain ⟨y, hy, ey, Hy⟩ : ∃ x : Nat, x < 256 ∧ (s[1].toNat : Nat) = x ∧ Hid (byteAt s 1 = x) := ⟨byteAt s 1, hy1, by rw [byteAt_eq], rfl⟩
      by_cases hl : s.size < 8 * (y + 1)
      · have HF : Hid (furtherLen s p = 0) := by show _ = _; simp [furtherLen, h8, hp, Hy.out, hl]
        go_enter Try.func87, Try.ntmps87
        go_wp2
        go_ret
        exact ⟨by rw [HF.out]; rfl, rfl⟩
      · have HF : Hid (furtherLen s p = 8 * (y + 1)) := by show _ = _; simp [furtherLen, h8, hp, Hy.out, hl]
        go_enter Try.func87, Try.ntmps87
        go_wp2
        go_ret
        exact ⟨ret_int (by rw [HF.out]; go_num), rfl⟩

end Go.Proofs.Ytnkicbopebgppaa

namespace Go.Proofs.Ytnkicbopebgppaa
open Go.RowKit Fl

theorem and16 (m : Nat) (h : m < 4611686018427387904) : bits .and .i64 (m : Int) 65535 = ((m % 65536 : Nat) : Int) := by
  have := i64_and_nat m 65535 h (by decide)
  rw [nat_mask16] at this
  exact this

set_option maxHeartbeats 400000 in
theorem sum_any (s : ByteArray) (F : Nat) (w : World) (hs : s.size ≤ 1000) (HF : Hid (fold16 (wsum s (s.size / 2)) = F)) :
    Calls Try.prog 84 #[.string s] w fun e w' => e = .returned (.int .i64 F) ∧ Below w.heap.size w w' := by
  go_enter Try.func84, Try.ntmps84
  go_wp2_with fail
  go_loopw [3, 4] (fun v i wr => ∃ k : Nat, 2 * k ≤ s.size ∧ i = .int .i64 (2 * (k : Int)) ∧ v = .int .i64 (wsum s k : Nat) ∧ Below w.heap.size w wr) (fun _ i _ => s.size - (intOf i).toNat)
  case atStart => exact ⟨0, by omega, rfl, rfl, Below.refl _ _⟩
  case round =>
    obtain ⟨k, hk, rfl, rfl, hbl⟩ := hrel
    have hle := wsum_le s k
    by_cases hlt : 2 * k + 1 < s.size
    · have hbe := be16_lt s (2 * k)
      have HW : Hid (wsum s (k + 1) = wsum s k + be16 s (2 * k)) := rfl
      go_wp2_with fail
      refine (pair_any s _ _ (by omega) (by omega) (by unfold maxLen; omega)).mono ?_
      rintro e w1 ⟨rfl, hb1⟩
      rw [show (2 * (k : Int)).toNat = 2 * k by omega]
      go_wp2_with fail
      exact ⟨⟨k + 1, by omega, by go_num, by rw [HW.out]; go_num, hbl.trans (hb1.mono hbl.size)⟩, by simp [intOf]; omega⟩
    · have hk2 : s.size / 2 = k := by omega
      have HF2 : Hid (fold16 (wsum s k) = F) := by rw [← hk2]; exact HF
      clear hk2
      go_wp2_with fail
      go_loop [3] (fun v => ∃ m : Nat, m ≤ 100000000 ∧ v = .int .i64 m ∧ Hid (fold16 m = F)) (fun v => (intOf v).toNat)
      case atStart => exact ⟨wsum s k, by omega, rfl, HF2⟩
      case round =>
        obtain ⟨m, hm, rfl, HM⟩ := hrel
        by_cases hbig : 65535 < m
        · have hS := fold16_step m hbig
          have HS : Hid (fold16 (m / 65536 + m % 65536) = fold16 m) := hS
          clear hS
          obtain ⟨q, hq, eq, Hq⟩ : ∃ q : Nat, q < 65536 ∧ bits .and .i64 (m : Int) 65535 = q ∧ Hid (m % 65536 = q) := ⟨_, Nat.mod_lt _ (by decide), and16 m (by omega), rfl⟩
          go_wp2_with fail
          go_round
          case rel => exact ⟨m / 65536 + q, by omega, by go_num, by show _ = _; rw [← Hq.out, HS.out, HM.out]⟩
          case measure => simp [intOf]; have := Hq.out; omega
        · have HZ : Hid (m = F) := by show _ = _; rw [← HM.out, fold16_small m (by omega)]
          go_wp2_with fail
          go_ret
          exact ⟨ret_int (by rw [← HZ.out]), hbl⟩

end Go.Proofs.Ytnkicbopebgppaa

namespace Go.Proofs.Ytnkicbopebgppaa
open Go.RowKit Fl

theorem and15 (x : Nat) (h : x < 256) : bits .and .u8 (x : Int) 15 = ((x % 16 : Nat) : Int) := by
  have := u8_and_nat x 15 h (by decide)
  rw [nat_mask4] at this
  exact this

theorem and14 (x : Nat) (h : x < 65536) : bits .and .i64 (x : Int) 16383 = ((x % 16384 : Nat) : Int) := by
  have := i64_and_nat x 16383 (by omega) (by decide)
  rw [nat_mask14] at this
  exact this

set_option maxHeartbeats 800000 in
theorem of4_yes (s t : ByteArray) (w : World) (hs : s.size ≤ 1000) (h : v4B s = true) (ht : Hid (text4 s = t)) :
    Calls Try.prog 70 #[.string s] w fun e w' => e = .returned (.tuple #[.string t, .bool true]) ∧ Below w.heap.size w w' := by
  have h20 : 20 ≤ s.size := by simp only [v4B, decide_eq_true_eq] at h; exact h.1
  obtain ⟨x0, hx0, e0, H0⟩ : ∃ x : Nat, x < 256 ∧ s[0].toNat = x ∧ Hid (byteAt s 0 = x) := ⟨byteAt s 0, byteAt_lt _ _, by rw [byteAt_eq], rfl⟩
  obtain ⟨x9, hx9, e9, H9⟩ : ∃ x : Nat, x < 256 ∧ s[9].toNat = x ∧ Hid (byteAt s 9 = x) := ⟨byteAt s 9, byteAt_lt _ _, by rw [byteAt_eq], rfl⟩
  simp only [v4B, decide_eq_true_eq] at h
  obtain ⟨_, h4, hh, hn, hns, hsum⟩ := h
  have Ht := ht.out
  unfold text4 at Ht
  rw [H0.out] at h4 hh hn hsum Ht
  rw [H9.out] at Ht
  have hbe := be16_lt s 2
  have hbe6 := be16_lt s 6
  obtain ⟨l, hl, el, Hl⟩ : ∃ l : Nat, l < 16 ∧ bits .and .u8 (x0 : Int) 15 = l ∧ Hid (x0 % 16 = l) := ⟨_, Nat.mod_lt _ (by decide), and15 x0 hx0, rfl⟩
  rw [Hl.out] at hh hn hsum Ht
  obtain ⟨g, eg, Hg⟩ : ∃ g : Nat, (l : Int) * 4 = g ∧ Hid (l * 4 = g) := ⟨l * 4, by omega, rfl⟩
  have hg : g ≤ 60 := by have := Hg.out; omega
  rw [Hg.out] at hh hn hsum Ht
  have HS : Hid (fold16 (wsum (s.extract 0 g) ((s.extract 0 g).size / 2)) = 65535) := by
    show _ = _
    rw [ByteArray.size_extract, show min g s.size - 0 = g by omega, wsum_extract s _ (by omega) _ (by omega)]
    exact hsum
  clear hsum
  have t4 : ((x0 : Int) / 16 != 4) = false := by simp; omega
  have h10 : (10 : Int) ≤ s.size := by omega
  have h9 : (9 : Int) < s.size := by omega
  generalize hn2 : be16 s 2 = n at *
  have Hn2 : Hid (be16 s 2 = n) := hn2
  clear hn2
  generalize hf2 : be16 s 6 = f at *
  have Hf2 : Hid (be16 s 6 = f) := hf2
  clear hf2
  obtain ⟨q, hq, eq, Hq⟩ : ∃ l : Nat, l < 16384 ∧ bits .and .i64 (f : Int) 16383 = l ∧ Hid (f % 16384 = l) := ⟨_, Nat.mod_lt _ (by decide), and14 f hbe6, rfl⟩
  rw [Hq.out] at Ht
  have HT : Hid (_ = t) := Ht
  clear Ht ht
  obtain ⟨c1, hc1, ec1, Hc1⟩ := mk_cat Try.prog ⟨#[4]⟩ (s.extract 12 20) (by decide) (by rw [ByteArray.size_extract]; omega)
  have hc1s : c1.size ≤ 10000 := by rw [hc1, ByteArray.size_extract]; show 1 + _ ≤ _; omega
  clear hc1
  obtain ⟨c2, hc2, ec2, Hc2⟩ := mk_cat Try.prog c1 (s.extract 9 10) (by omega) (by rw [ByteArray.size_extract]; omega)
  have hc2s : c2.size ≤ 20000 := by rw [hc2, ByteArray.size_extract]; omega
  clear hc2
  rw [Hc1.out, Hc2.out] at HT
  go_enter Try.func70, Try.ntmps70
  go_wp2_with fail
  refine (pair_any s _ _ (by decide) (by omega) (by unfold maxLen; omega)).mono ?_
  rintro e w1 ⟨rfl, hb1⟩
  rw [show (2 : Int).toNat = 2 from rfl, Hn2.out]
  go_wp2_with fail
  refine (sum_any _ _ _ (by rw [ByteArray.size_extract]; omega) HS).mono ?_
  rintro e w2 ⟨rfl, hb2⟩
  go_wp2_with fail
  go_quiet (fail)
  go_wp2_with fail
  refine (pair_any s _ _ (by decide) (by omega) (by unfold maxLen; omega)).mono ?_
  rintro e w3 ⟨rfl, hb3⟩
  rw [show (6 : Int).toNat = 6 from rfl, Hf2.out]
  have hbz : Below w.heap.size w w3 := ((hb1.trans (hb2.mono hb1.size)).drewN nq).trans (hb3.mono (by have := hb1.size; have := hb2.size; simp; omega))
  by_cases hq0 : q = 0
  · subst hq0
    rw [if_pos rfl] at HT
    have hi1 : (g : Int) ≤ n := by omega
    have hi2 : (n : Int) ≤ s.size := by omega
    have hp := portsOf_size (s.extract g n) x9
    obtain ⟨c3, hc3, ec3, Hc3⟩ := mk_cat Try.prog c2 (portsOf (s.extract g n) x9) (by omega) (by omega)
    rw [Hc3.out] at HT
    go_wp2_with fail
    go_quiet ((go_at_call 85; exact Calls.quiet_of_same (ports_any _ _ _ (by unfold maxLen; rw [ByteArray.size_extract]; omega))))
    go_wp2_with fail
    go_ret2
    exact ⟨by rw [← HT.out]; simp, hbz.drewN _⟩
  · rw [if_neg hq0] at HT
    have hq1 : ((q : Int) != 0) = true := by rw [bne_iff_ne]; omega
    go_wp2_with fail
    go_ret2
    exact ⟨by rw [← HT.out, app_nil]; simp, hbz⟩

set_option maxHeartbeats 800000 in
theorem of4_no (s : ByteArray) (w : World) (hs : s.size ≤ 1000) (h : v4B s = false) :
    Calls Try.prog 70 #[.string s] w fun e w' => e = .returned (.tuple #[.string ⟨#[]⟩, .bool false]) ∧ Below w.heap.size w w' := by
  by_cases h20 : 20 ≤ s.size
  · obtain ⟨x0, hx0, e0, H0⟩ : ∃ x : Nat, x < 256 ∧ s[0].toNat = x ∧ Hid (byteAt s 0 = x) := ⟨byteAt s 0, byteAt_lt _ _, by rw [byteAt_eq], rfl⟩
    simp only [v4B, decide_eq_false_iff_not] at h
    rw [H0.out] at h
    by_cases h4 : x0 / 16 = 4
    · have t4 : ((x0 : Int) / 16 != 4) = false := by simp; omega
      have hbe := be16_lt s 2
      obtain ⟨l, hl, el, Hl⟩ : ∃ l : Nat, l < 16 ∧ bits .and .u8 (x0 : Int) 15 = l ∧ Hid (x0 % 16 = l) := ⟨_, Nat.mod_lt _ (by decide), and15 x0 hx0, rfl⟩
      obtain ⟨g, eg, Hg⟩ : ∃ g : Nat, (l : Int) * 4 = g ∧ Hid (l * 4 = g) := ⟨l * 4, by omega, rfl⟩
      have hg : g ≤ 60 := by have := Hg.out; omega
      rw [Hl.out, Hg.out] at h
      generalize hn2 : be16 s 2 = n at *
      have Hn2 : Hid (be16 s 2 = n) := hn2
      clear hn2
      by_cases hok : 20 ≤ g ∧ g ≤ n ∧ n ≤ s.size
      · obtain ⟨h1, h2, h3⟩ := hok
        have hsum : ¬ fold16 (wsum s (g / 2)) = 65535 := fun e => h ⟨h20, h4, h1, h2, h3, e⟩
        clear h
        obtain ⟨F, HF⟩ : ∃ F : Nat, Hid (fold16 (wsum (s.extract 0 g) ((s.extract 0 g).size / 2)) = F) := ⟨_, rfl⟩
        have hF : ¬ F = 65535 := by
          rw [← HF.out, ByteArray.size_extract, show min g s.size - 0 = g by omega, wsum_extract s _ (by omega) _ (by omega)]
          exact hsum
        have hF2 : ((F : Int) != 65535) = true := by rw [bne_iff_ne]; omega
        go_enter Try.func70, Try.ntmps70
        go_wp2_with fail
        refine (pair_any s _ _ (by decide) (by omega) (by unfold maxLen; omega)).mono ?_
        rintro e w1 ⟨rfl, hb1⟩
        rw [show (2 : Int).toNat = 2 from rfl, Hn2.out]
        go_wp2_with fail
        refine (sum_any _ _ _ (by rw [ByteArray.size_extract]; omega) HF).mono ?_
        rintro e w2 ⟨rfl, hb2⟩
        go_wp2_with fail
        go_ret2
        exact ⟨rfl, hb1.trans (hb2.mono hb1.size)⟩
      · clear h
        by_cases h1 : 20 ≤ g
        · by_cases h2 : g ≤ n
          · have h3 : s.size < n := by omega
            go_enter Try.func70, Try.ntmps70
            go_wp2_with fail
            refine (pair_any s _ _ (by decide) (by omega) (by unfold maxLen; omega)).mono ?_
            rintro e w1 ⟨rfl, hb1⟩
            rw [show (2 : Int).toNat = 2 from rfl, Hn2.out]
            go_wp2_with fail
            go_ret2
            exact ⟨rfl, hb1⟩
          · go_enter Try.func70, Try.ntmps70
            go_wp2_with fail
            refine (pair_any s _ _ (by decide) (by omega) (by unfold maxLen; omega)).mono ?_
            rintro e w1 ⟨rfl, hb1⟩
            rw [show (2 : Int).toNat = 2 from rfl, Hn2.out]
            go_wp2_with fail
            go_ret2
            exact ⟨rfl, hb1⟩
        · go_enter Try.func70, Try.ntmps70
          go_wp2_with fail
          refine (pair_any s _ _ (by decide) (by omega) (by unfold maxLen; omega)).mono ?_
          rintro e w1 ⟨rfl, hb1⟩
          rw [show (2 : Int).toNat = 2 from rfl, Hn2.out]
          go_wp2_with fail
          go_ret2
          exact ⟨rfl, hb1⟩
    · have t4 : ((x0 : Int) / 16 != 4) = true := by simp; omega
      go_enter Try.func70, Try.ntmps70
      go_wp2_with fail
      go_ret2
      exact ⟨rfl, Below.refl _ _⟩
  · go_enter Try.func70, Try.ntmps70
    go_wp2_with fail
    go_ret2
    exact ⟨rfl, Below.refl _ _⟩

set_option maxRecDepth 100000 in
set_option maxHeartbeats 800000 in
theorem ofUnread_any (s t : ByteArray) (w : World) (ht : Hid (⟨#[0]⟩ ++ padded s 16 = t)) :
    Calls Try.prog 72 #[.string s] w fun e w' => e = .returned (.string t) ∧ w' = w := by
  go_enter Try.func72, Try.ntmps72
  go_wp2_with fail
  go_loop [3, 4] (fun v i => ∃ (k : Nat) (c : ByteArray), k ≤ 16 ∧ i = .int .i64 k ∧ v = .string c ∧ c.size = k + 1 ∧ Hid (⟨#[0]⟩ ++ padded s k = c)) (fun _ i => 16 - (intOf i).toNat)
  case atStart => exact ⟨0, ⟨#[0]⟩, by omega, rfl, rfl, rfl, rfl⟩
  case round =>
    obtain ⟨k, c, hk, rfl, rfl, hcs, Hc⟩ := hrel
    by_cases hlt : k < 16
    · by_cases hin : k < s.size
      · have hsl := slice_run Try.prog 9 Try.underlying9 s (k : Int) ((k : Int) + 1) k (k + 1) rfl (by omega) (by omega) (by omega)
        obtain ⟨d, hd, ed, Hd⟩ := mk_cat Try.prog c (s.extract k (k + 1)) (by omega) (by rw [ByteArray.size_extract]; omega)
        have hds : d.size = k + 1 + 1 := by rw [hd, hcs, ByteArray.size_extract]; omega
        have HN : Hid (⟨#[0]⟩ ++ padded s (k + 1) = d) := by
          show _ = _
          rw [← Hd.out, ← Hc.out, padded, ByteArray.append_assoc, extract_one s k hin]
        clear hd hcs
        go_wp2_with fail
        go_round
        case rel => exact ⟨k + 1, d, by omega, by go_num, by simp, hds, HN⟩
        case measure => simp [intOf]; omega
      · obtain ⟨d, hd, ed, Hd⟩ := mk_cat Try.prog c ⟨#[0]⟩ (by omega) (by decide)
        have hds : d.size = k + 1 + 1 := by rw [hd, hcs]; rfl
        have HN : Hid (⟨#[0]⟩ ++ padded s (k + 1) = d) := by
          show _ = _
          rw [← Hd.out, ← Hc.out, padded, ByteArray.append_assoc, show byteAt s k = 0 by simp [byteAt, hin]]
          rfl
        clear hd hcs
        go_wp2_with fail
        go_round
        case rel => exact ⟨k + 1, d, by omega, by go_num, by simp, hds, HN⟩
        case measure => simp [intOf]; omega
    · have hk16 : k = 16 := by omega
      subst hk16
      have HZ : Hid (c = t) := by show _ = _; rw [← Hc.out, ht.out]
      go_wp2_with fail
      go_ret
      exact ⟨by rw [← HZ.out]; rfl, rfl⟩

end Go.Proofs.Ytnkicbopebgppaa

namespace Go.Proofs.Ytnkicbopebgppaa
open Go.RowKit Fl

theorem furtherLen_bd (r : ByteArray) (k : Nat) : furtherLen r k ≤ r.size := by
  unfold furtherLen
  by_cases h : r.size < 8
  · rw [if_pos h]; omega
  · rw [if_neg h]
    simp only []
    generalize (if k = 44 then 8 else 8 * (byteAt r 1 + 1)) = z
    split <;> omega

theorem furtherLen_8 (r : ByteArray) (k : Nat) (h : ¬ furtherLen r k = 0) : 8 ≤ r.size := by
  unfold furtherLen at h; split at h
  · simp at h
  · omega

theorem chain_stop (f : Nat) (rest : ByteArray) (next : Nat) (whole : Bool) (h : furtherB next = false) : chain f rest next whole = some (rest, next, whole) := by
  cases f <;> (rw [chain, h]; rfl)

theorem chain_zero (rest : ByteArray) (next : Nat) (whole : Bool) (h : furtherB next = true) : chain 0 rest next whole = none := by rw [chain, h]; rfl

theorem chain_bad (f : Nat) (rest : ByteArray) (next : Nat) (whole : Bool) (h : furtherB next = true) (h0 : furtherLen rest next = 0) : chain f rest next whole = none := by
  cases f
  · exact chain_zero _ _ _ h
  · rw [chain, h, h0]; rfl

theorem chain_go (f : Nat) (rest : ByteArray) (next : Nat) (whole : Bool) (h : furtherB next = true) (h0 : ¬ furtherLen rest next = 0) :
    chain (f + 1) rest next whole = chain f (rest.extract (furtherLen rest next) rest.size) (byteAt rest 0) (whole && next != 44) := by
  rw [chain, if_pos h, if_neg h0]

set_option maxRecDepth 100000 in
set_option maxHeartbeats 1600000 in
theorem of6_any (s t : ByteArray) (b : Bool) (w : World) (hs : s.size ≤ 1000) (h : Hid (is6 s t b)) :
    Calls Try.prog 71 #[.string s] w fun e w' => e = .returned (.tuple #[.string t, .bool b]) ∧ Below w.heap.size w w' := by
  by_cases h40 : 40 ≤ s.size
  · obtain ⟨x0, hx0, e0, H0⟩ : ∃ x : Nat, x < 256 ∧ s[0].toNat = x ∧ Hid (byteAt s 0 = x) := ⟨byteAt s 0, byteAt_lt _ _, by rw [byteAt_eq], rfl⟩
    obtain ⟨x6, hx6, e6, H6⟩ : ∃ x : Nat, x < 256 ∧ s[6].toNat = x ∧ Hid (byteAt s 6 = x) := ⟨byteAt s 6, byteAt_lt _ _, by rw [byteAt_eq], rfl⟩
    have h8 : (40 : Int) ≤ s.size := by omega
    have h6 : (6 : Int) < s.size := by omega
    by_cases h4 : x0 / 16 = 6
    · have t4 : ((x0 : Int) / 16 != 6) = false := by simp; omega
      have hbe := be16_lt s 4
      obtain ⟨n, Hn2⟩ : ∃ n, Hid (be16 s 4 = n) := ⟨_, rfl⟩
      rw [Hn2.out] at hbe
      by_cases hn : 40 + n ≤ s.size
      · obtain ⟨R, HR⟩ : ∃ R, Hid (chain 4 (s.extract 40 (40 + n)) x6 true = R) := ⟨_, rfl⟩
        have HM : Hid (end6 s t b R) := by
          have := is6_end s t b h.out (by rw [H0.out, Hn2.out]; exact ⟨h40, h4, hn⟩)
          rw [Hn2.out, H6.out, HR.out] at this
          exact this
        clear h
        have hsl := slice_run Try.prog 9 Try.underlying9 s 40 (40 + (n : Int)) 40 (40 + n) rfl (by omega) (by omega) (by omega)
        obtain ⟨r0, hr0, Hr0⟩ : ∃ r0 : ByteArray, r0.size ≤ 1000 ∧ Hid (s.extract 40 (40 + n) = r0) := ⟨_, by rw [ByteArray.size_extract]; omega, rfl⟩
        rw [Hr0.out] at HR hsl
        obtain ⟨c1, hc1, ec1, Hc1⟩ := mk_cat Try.prog ⟨#[6]⟩ (s.extract 8 40) (by decide) (by rw [ByteArray.size_extract]; omega)
        have hc1s : c1.size ≤ 10000 := by rw [hc1, ByteArray.size_extract]; show 1 + _ ≤ _; omega
        clear hc1
        go_enter Try.func71, Try.ntmps71
        go_wp2_with fail
        refine (pair_any s _ _ (by decide) (by omega) (by unfold maxLen; omega)).mono ?_
        rintro e w1 ⟨rfl, hb1⟩
        rw [show (4 : Int).toNat = 4 from rfl, Hn2.out]
        go_wp2_with fail
        go_loopw [5, 6, 7, 8] (fun vr vn vw vc wr => ∃ (f k : Nat) (rest : ByteArray) (next : Nat) (whole : Bool), k + f = 4 ∧ vr = .string rest ∧ vn = .int .u8 next ∧ vw = .bool whole ∧ vc = .int .i64 k ∧ rest.size ≤ 1000 ∧ next < 256 ∧
            Hid (chain f rest next whole = R) ∧ Below w.heap.size w wr) (fun _ _ _ vc _ => 5 - (intOf vc).toNat)
        case atStart => exact ⟨4, 0, r0, x6, true, rfl, rfl, rfl, rfl, rfl, hr0, hx6, HR, hb1⟩
        case round =>
          obtain ⟨f, k, rest, next, whole, hkf, rfl, rfl, rfl, rfl, hrs, hnx, HC, hbl⟩ := hrel
          cases hfu : furtherB next
          · have hM := HM.out
            rw [← HC.out, chain_stop f rest next whole hfu] at hM
            obtain ⟨hM1, rfl⟩ := hM
            have HM1 : Hid (_ = t) := hM1
            clear hM1 HM HC HR
            rw [Hc1.out] at HM1
            obtain ⟨c2, hc2, ec2, Hc2⟩ := mk_cat Try.prog c1 ⟨#[UInt8.ofNat next]⟩ (by omega) (by show 1 ≤ _; omega)
            rw [Hc2.out] at HM1
            have hc2s : c2.size ≤ 20000 := by rw [hc2]; show _ + 1 ≤ _; omega
            clear hc2
            go_wp2_with fail
            refine (isFurther_any next _ false hfu).mono ?_
            rintro e w2 ⟨rfl, rfl⟩
            go_wp2_with fail
            have hcv := conv1d Try.prog 54 9 5 Try.underlying54 Try.underlying5 Try.underlying9 next hnx
            have hp := portsOf_size rest next
            obtain ⟨c3, hc3, ec3, Hc3⟩ := mk_cat Try.prog c2 (portsOf rest next) (by omega) (by omega)
            have hbz : Below w.heap.size w (w2.alloc (.cells #[.int .u8 next] 5)).drew := (hbl.alloc hbl.size _).drew
            go_region
            cases whole
            · have HF : Hid (c2 = t) := by show _ = _; rw [← HM1.out, if_neg (by decide), app_nil]
              go_wp2_with fail
              go_ret2
              exact ⟨by rw [← HF.out]; simp, hbz⟩
            · have HF : Hid (c3 = t) := by show _ = _; rw [← HM1.out, if_pos rfl, Hc3.out]
              go_wp2_with fail
              refine (ports_any rest next _ (by unfold maxLen; omega)).mono ?_
              rintro e w3 ⟨rfl, rfl⟩
              go_wp2_with fail
              go_ret2
              exact ⟨by rw [← HF.out]; simp, hbz⟩
          · go_wp2_with fail
            refine (isFurther_any next _ true hfu).mono ?_
            rintro e w2 ⟨rfl, rfl⟩
            go_wp2_with fail
            refine (furtherBytes_any rest next _ (by unfold maxLen; omega)).mono ?_
            rintro e w2 ⟨rfl, rfl⟩
            have hfl := furtherLen_bd rest next
            have hf8 := furtherLen_8 rest next
            obtain ⟨z, HZ⟩ : ∃ z, Hid (furtherLen rest next = z) := ⟨_, rfl⟩
            rw [HZ.out] at hfl hf8 ⊢
            by_cases hk4 : k = 4
            · have hf0 : f = 0 := by omega
              subst hk4 hf0
              have hM := HM.out
              rw [← HC.out, chain_zero rest next whole hfu] at hM
              obtain ⟨rfl, rfl⟩ := hM
              go_wp2_with fail
              go_ret2
              exact ⟨rfl, hbl⟩
            · have hk4' : ((k : Int) == 4) = false := by rw [beq_eq_false_iff_ne]; omega
              by_cases hz0 : z = 0
              · subst hz0
                have hM := HM.out
                rw [← HC.out, chain_bad f rest next whole hfu HZ.out] at hM
                obtain ⟨rfl, rfl⟩ := hM
                go_wp2_with fail
                go_ret2
                exact ⟨rfl, hbl⟩
              · obtain ⟨f', rfl⟩ : ∃ f', f = f' + 1 := ⟨f - 1, by omega⟩
                have hr8 := hf8 hz0
                clear hf8
                have hz0' : ((z : Int) == 0) = false := by rw [beq_eq_false_iff_ne]; omega
                have HN := chain_go f' rest next whole hfu (by rw [HZ.out]; exact hz0)
                rw [HC.out, HZ.out] at HN
                have hsz := slice_run_l Try.prog 9 Try.underlying9 rest (z : Int) z rfl hfl
                have hr0i : (0 : Int) < rest.size := by omega
                obtain ⟨y, hy, ey, Hy⟩ : ∃ x : Nat, x < 256 ∧ rest[0].toNat = x ∧ Hid (byteAt rest 0 = x) := ⟨byteAt rest 0, byteAt_lt _ _, by rw [byteAt_eq], rfl⟩
                rw [Hy.out] at HN
                obtain ⟨r1, hr1, Hr1⟩ : ∃ r1 : ByteArray, r1.size ≤ 1000 ∧ Hid (rest.extract z rest.size = r1) := ⟨_, by rw [ByteArray.size_extract]; omega, rfl⟩
                rw [Hr1.out] at HN hsz
                have HN2 : Hid (_ = _) := HN.symm
                clear HN
                by_cases h44 : next = 44
                · subst h44
                  go_wp2_with fail
                  exact ⟨⟨f', k + 1, r1, y, false, by omega, rfl, rfl, rfl, by go_num, hr1, hy, by have := HN2.out; show _ = _; simpa using this, hbl⟩, by simp [intOf]; omega⟩
                · have h44' : ((next : Int) == 44) = false := by rw [beq_eq_false_iff_ne]; omega
                  have h44n : (next != 44) = true := by rw [bne_iff_ne]; exact h44
                  rw [h44n, Bool.and_true] at HN2
                  clear h44n
                  go_wp2_with fail
                  exact ⟨⟨f', k + 1, r1, y, whole, by omega, rfl, rfl, rfl, by go_num, hr1, hy, HN2, hbl⟩, by simp [intOf]; omega⟩
      · obtain ⟨rfl, rfl⟩ := is6_none s t b h.out (by rw [H0.out, Hn2.out]; exact fun e => hn e.2.2)
        go_enter Try.func71, Try.ntmps71
        go_wp2_with fail
        refine (pair_any s _ _ (by decide) (by omega) (by unfold maxLen; omega)).mono ?_
        rintro e w1 ⟨rfl, hb1⟩
        rw [show (4 : Int).toNat = 4 from rfl, Hn2.out]
        go_wp2_with fail
        go_ret2
        exact ⟨rfl, hb1⟩
    · obtain ⟨rfl, rfl⟩ := is6_none s t b h.out (by rw [H0.out]; exact fun e => h4 e.2.1)
      have t4 : ((x0 : Int) / 16 != 6) = true := by simp; omega
      go_enter Try.func71, Try.ntmps71
      go_wp2_with fail
      go_ret2
      exact ⟨rfl, Below.refl _ _⟩
  · obtain ⟨rfl, rfl⟩ := is6_none s t b h.out (fun e => h40 e.1)
    go_enter Try.func71, Try.ntmps71
    go_wp2_with fail
    go_ret2
    exact ⟨rfl, Below.refl _ _⟩

end Go.Proofs.Ytnkicbopebgppaa

namespace Go.Proofs.Ytnkicbopebgppaa
open Go.RowKit Fl

theorem flow6_cases (s : ByteArray) : (∃ u, flow6 s = some u ∧ is6 s u true) ∨ (flow6 s = none ∧ is6 s ⟨#[]⟩ false) := by
  rcases h : flow6 s with _ | u
  · exact .inr ⟨rfl, by unfold is6; rw [h]; exact ⟨rfl, rfl⟩⟩
  · exact .inl ⟨u, rfl, by unfold is6; rw [h]; exact ⟨rfl, rfl⟩⟩

set_option maxHeartbeats 400000 in
theorem flowOf_any (s t : ByteArray) (w : World) (hs : s.size ≤ 1000) (ht : Hid (flowOf s = t)) :
    Calls Try.prog 59 #[.string s] w fun e w' => e = .returned (.string t) ∧ Below w.heap.size w w' := by
  have ht' := ht.out
  unfold flowOf at ht'
  cases h4 : v4B s
  · rw [if_neg (by rw [h4]; decide)] at ht'
    rcases flow6_cases s with ⟨u, h6, hi⟩ | ⟨h6, hi⟩
    · rw [h6] at ht'
      obtain rfl : u = t := ht'
      go_enter Try.func59, Try.ntmps59
      go_wp2_with fail
      refine (of4_no s _ hs h4).mono ?_
      rintro e w1 ⟨rfl, hb1⟩
      go_wp2_with fail
      refine (of6_any s u true _ hs hi).mono ?_
      rintro e w2 ⟨rfl, hb2⟩
      go_wp2_with fail
      go_ret
      exact ⟨rfl, hb1.trans (hb2.mono hb1.size)⟩
    · rw [h6] at ht'
      have HT : Hid (⟨#[0]⟩ ++ padded s 16 = t) := ht'
      clear ht'
      go_enter Try.func59, Try.ntmps59
      go_wp2_with fail
      refine (of4_no s _ hs h4).mono ?_
      rintro e w1 ⟨rfl, hb1⟩
      go_wp2_with fail
      refine (of6_any s ⟨#[]⟩ false _ hs hi).mono ?_
      rintro e w2 ⟨rfl, hb2⟩
      go_wp2_with fail
      refine (ofUnread_any s t _ HT).mono ?_
      rintro e w3 ⟨rfl, rfl⟩
      go_wp2_with fail
      go_ret
      exact ⟨rfl, hb1.trans (hb2.mono hb1.size)⟩
  · rw [if_pos h4] at ht'
    go_enter Try.func59, Try.ntmps59
    go_wp2_with fail
    refine (of4_yes s t _ hs h4 ht').mono ?_
    rintro e w1 ⟨rfl, hb1⟩
    go_wp2_with fail
    go_ret
    exact ⟨rfl, hb1⟩

theorem byteAt_head (c : UInt8) (a : ByteArray) : byteAt (⟨#[c]⟩ ++ a) 0 = c.toNat ∧ 1 ≤ (⟨#[c]⟩ ++ a : ByteArray).size := by
  have h : (⟨#[c]⟩ ++ a : ByteArray).size = 1 + a.size := by rw [ByteArray.size_append]; rfl
  refine ⟨?_, by omega⟩
  unfold byteAt
  rw [dif_pos (by omega), ByteArray.getElem_append_left (by show 0 < 1; omega)]
  rfl

theorem version_eq (s : ByteArray) : byteAt (flowOf s) 0 = versionOf s ∧ 1 ≤ (flowOf s).size := by
  unfold flowOf versionOf
  cases h4 : v4B s
  · rcases flow6_cases s with ⟨u, h6, hi⟩ | ⟨h6, hi⟩
    · rw [h6]
      simp only [Bool.false_eq_true, if_false, Option.isSome_some, if_true]
      unfold flow6 at h6
      split at h6
      · split at h6
        · cases h6
        · simp only [Option.some.injEq] at h6
          rw [← h6]
          simp only [ByteArray.append_assoc]
          exact byteAt_head _ _
      · cases h6
    · rw [h6]
      simp only [Bool.false_eq_true, if_false, Option.isSome_none]
      exact byteAt_head _ _
  · simp only [if_true]
    unfold text4
    simp only [ByteArray.append_assoc]
    exact byteAt_head _ _

set_option maxHeartbeats 400000 in
theorem version_any (s : ByteArray) (v : Nat) (w : World) (hs : s.size ≤ 1000) (hv : Hid (versionOf s = v)) :
    Calls Try.prog 96 #[.string s] w fun e w' => e = .returned (.int .i64 v) ∧ Below w.heap.size w w' := by
  obtain ⟨t, HT⟩ : ∃ t, Hid (flowOf s = t) := ⟨_, rfl⟩
  obtain ⟨h1, h2⟩ := version_eq s
  rw [HT.out] at h1 h2
  rw [hv.out] at h1
  have hv2 : v < 256 := by rw [← h1]; exact byteAt_lt _ _
  have e0 : t[0].toNat = v := by rw [byteAt_eq]; exact h1
  clear h1
  have hz : ((t.size : Int) == 0) = false := by rw [beq_eq_false_iff_ne]; omega
  have hz2 : (0 : Int) < t.size := by omega
  go_enter Try.func96, Try.ntmps96
  go_wp2_with fail
  refine (flowOf_any s t _ hs HT).mono ?_
  rintro e w1 ⟨rfl, hb1⟩
  go_wp2_with fail
  go_ret
  exact ⟨rfl, hb1⟩

end Go.Proofs.Ytnkicbopebgppaa

namespace Go.Proofs.Ytnkicbopebgppaa
open Go.RowKit Fl

set_option maxHeartbeats 400000 in
theorem markable_any (n : Nat) (b : Bool) (w : World) (hb : Hid ((n == 1 || n == 2) = b)) :
    Calls Try.prog 100 #[.int .i64 n] w fun e w' => e = .returned (.bool b) ∧ w' = w := by
  have e0 : ((n : Int) == 1) = (n == 1) := by rw [Bool.eq_iff_iff]; simp; omega
  have e1 : ((n : Int) == 2) = (n == 2) := by rw [Bool.eq_iff_iff]; simp; omega
  generalize (n == 1) = b0 at *
  generalize (n == 2) = b1 at *
  have HB : Hid (_ = b) := hb
  clear hb
  cases b0 <;> cases b1
  all_goals
    go_enter Try.func100, Try.ntmps100
    go_wp2
    go_ret
    exact ⟨by rw [← HB.out]; rfl, rfl⟩

theorem and48 (x : Nat) (h : x < 256) : bits .and .u8 (x : Int) 48 = ((x / 16 % 4 * 16 : Nat) : Int) := by
  have := u8_and_nat x 48 h (by decide)
  rw [show ((48 : Nat) : Int) = 48 from rfl] at this
  rw [this]
  have h2 : ∀ y, y < 256 → y &&& 48 = y / 16 % 4 * 16 := by decide +kernel
  rw [h2 x h]

theorem and3 (x : Nat) (h : x < 256) : bits .and .u8 (x : Int) 3 = ((x % 4 : Nat) : Int) := by
  have := u8_and_nat x 3 h (by decide)
  rw [nat_mask2] at this
  exact this

theorem or_u8 (x c : Nat) (h : x < 256) (hc : c < 256) : bits .or .u8 (x : Int) (c : Int) = ((x ||| c : Nat) : Int) ∧ x ||| c < 256 := ⟨u8_or_nat x c h hc, Nat.or_lt_two_pow (n := 8) h hc⟩

set_option maxHeartbeats 400000 in
theorem set6_no (s : ByteArray) (w : World) (h40 : 40 ≤ s.size) (hs : s.size ≤ 1000) (hc : (byteAt s 1 / 16 % 4 == 1 || byteAt s 1 / 16 % 4 == 2) = false) :
    Calls Try.prog 98 #[.string s] w fun e w' => e = .returned (.tuple #[.string ⟨#[]⟩, .bool false]) ∧ Below w.heap.size w w' := by
  obtain ⟨x, hx, ex, Hx⟩ : ∃ x : Nat, x < 256 ∧ s[1].toNat = x ∧ Bx (byteAt s 1 = x) := ⟨byteAt s 1, byteAt_lt _ _, by rw [byteAt_eq], ⟨rfl⟩⟩
  rw [Hx.out] at hc
  obtain ⟨y, hy, ey, Hy⟩ : ∃ y : Nat, y < 4 ∧ bits .and .u8 (x : Int) 48 = 16 * (y : Int) ∧ Bx (x / 16 % 4 = y) := ⟨x / 16 % 4, by omega, by rw [and48 x hx]; omega, ⟨rfl⟩⟩
  rw [Hy.out] at hc
  have h1 : (1 : Int) < s.size := by omega
  have ez : (16 * (y : Int)) / 16 = y := by omega
  have HC : Hid ((y == 1 || y == 2) = false) := hc
  clear hc
  go_enter Try.func98, Try.ntmps98
  go_wp2_with fail
  refine (markable_any y false _ HC).mono ?_
  rintro e w1 ⟨rfl, rfl⟩
  go_wp2_with fail
  go_ret2
  exact ⟨rfl, Below.refl _ _⟩

set_option maxHeartbeats 800000 in
theorem set6_yes (s t : ByteArray) (w : World) (h40 : 40 ≤ s.size) (hs : s.size ≤ 1000) (hc : (byteAt s 1 / 16 % 4 == 1 || byteAt s 1 / 16 % 4 == 2) = true) (ht : Bx (mark6 s = t)) :
    Calls Try.prog 98 #[.string s] w fun e w' => e = .returned (.tuple #[.string t, .bool true]) ∧ Below w.heap.size w w' := by
  obtain ⟨x, hx, ex, Hx⟩ : ∃ x : Nat, x < 256 ∧ s[1].toNat = x ∧ Bx (byteAt s 1 = x) := ⟨byteAt s 1, byteAt_lt _ _, by rw [byteAt_eq], ⟨rfl⟩⟩
  rw [Hx.out] at hc
  obtain ⟨y, hy, ey, Hy⟩ : ∃ y : Nat, y < 4 ∧ bits .and .u8 (x : Int) 48 = 16 * (y : Int) ∧ Bx (x / 16 % 4 = y) := ⟨x / 16 % 4, by omega, by rw [and48 x hx]; omega, ⟨rfl⟩⟩
  rw [Hy.out] at hc
  have h1 : (1 : Int) < s.size := by omega
  have ez : (16 * (y : Int)) / 16 = y := by omega
  have HC : Hid ((y == 1 || y == 2) = true) := hc
  clear hc
  obtain ⟨z, hz, ezz, Hz⟩ : ∃ z : Nat, z < 256 ∧ bits .or .u8 (x : Int) 48 = z ∧ Bx (x ||| 48 = z) := ⟨x ||| 48, (or_u8 x 48 hx (by decide)).2, (or_u8 x 48 hx (by decide)).1, ⟨rfl⟩⟩
  have HT : Bx (put s 1 z = t) := ⟨by rw [← ht.out, mark6, Hx.out, Hz.out]⟩
  go_enter Try.func98, Try.ntmps98
  go_wp2_with fail
  refine (markable_any y true _ HC).mono ?_
  rintro e w1 ⟨rfl, rfl⟩
  go_wp2_with (refine wpList_bytes _ rfl 9 54 _ rfl 5 s Try.underlying9 Try.underlying54 Try.underlying5 rfl ?_)
  intro cap w2 hcell hfro hb2 hsz2 hcap
  have c1 := hcell 1 (by omega)
  rw [Hx.out] at c1
  have f1 := hfro 1 (by omega)
  have hat : BytesAt w2 w1.heap.size s := ⟨hcell⟩
  clear hcell hfro
  have hts : t.size = s.size := by rw [← HT.out, put_size]
  go_wp2_with (refine wpList_back _ rfl 54 9 _ rfl 5 t w1.heap.size 0 s.size cap Try.underlying54 Try.underlying9 Try.underlying5 rfl ?q1 ?q2 ?_)
  case q1 => exact hts
  case q2 =>
    intro i hi
    rw [Nat.zero_add, ← HT.out]
    exact (hat.put 1 z (by omega) hz).cell i (by rw [put_size]; exact hi)
  go_ret2
  exact ⟨rfl, hb2.setCell (Nat.le_refl _) _⟩

set_option maxHeartbeats 400000 in
theorem set4_no (s : ByteArray) (w : World) (h20 : 20 ≤ s.size) (hs : s.size ≤ 1000) (hc : (byteAt s 1 % 4 == 1 || byteAt s 1 % 4 == 2) = false) :
    Calls Try.prog 97 #[.string s] w fun e w' => e = .returned (.tuple #[.string ⟨#[]⟩, .bool false]) ∧ Below w.heap.size w w' := by
  obtain ⟨x, hx, ex, Hx⟩ : ∃ x : Nat, x < 256 ∧ s[1].toNat = x ∧ Bx (byteAt s 1 = x) := ⟨byteAt s 1, byteAt_lt _ _, by rw [byteAt_eq], ⟨rfl⟩⟩
  rw [Hx.out] at hc
  obtain ⟨y, hy, ey, Hy⟩ : ∃ y : Nat, y < 4 ∧ bits .and .u8 (x : Int) 3 = y ∧ Bx (x % 4 = y) := ⟨x % 4, by omega, and3 x hx, ⟨rfl⟩⟩
  rw [Hy.out] at hc
  have h1 : (1 : Int) < s.size := by omega
  have HC : Hid ((y == 1 || y == 2) = false) := hc
  clear hc
  go_enter Try.func97, Try.ntmps97
  go_wp2_with fail
  refine (markable_any y false _ HC).mono ?_
  rintro e w1 ⟨rfl, rfl⟩
  go_wp2_with fail
  go_ret2
  exact ⟨rfl, Below.refl _ _⟩

set_option maxHeartbeats 1600000 in
theorem set4_yes (s t : ByteArray) (w : World) (h20 : 20 ≤ s.size) (hs : s.size ≤ 1000) (hg20 : 20 ≤ byteAt s 0 % 16 * 4) (hgs : byteAt s 0 % 16 * 4 ≤ s.size)
    (hc : (byteAt s 1 % 4 == 1 || byteAt s 1 % 4 == 2) = true) (ht : Bx (mark4 s = t)) :
    Calls Try.prog 97 #[.string s] w fun e w' => e = .returned (.tuple #[.string t, .bool true]) ∧ Below w.heap.size w w' := by
  obtain ⟨x, hx, ex, Hx⟩ : ∃ x : Nat, x < 256 ∧ s[1].toNat = x ∧ Bx (byteAt s 1 = x) := ⟨byteAt s 1, byteAt_lt _ _, by rw [byteAt_eq], ⟨rfl⟩⟩
  obtain ⟨x0, hx0, e0, H0⟩ : ∃ x : Nat, x < 256 ∧ s[0].toNat = x ∧ Bx (byteAt s 0 = x) := ⟨byteAt s 0, byteAt_lt _ _, by rw [byteAt_eq], ⟨rfl⟩⟩
  rw [Hx.out] at hc
  obtain ⟨y, hy, ey, Hy⟩ : ∃ y : Nat, y < 4 ∧ bits .and .u8 (x : Int) 3 = y ∧ Bx (x % 4 = y) := ⟨x % 4, by omega, and3 x hx, ⟨rfl⟩⟩
  rw [Hy.out] at hc
  obtain ⟨l, hl, el, Hl⟩ : ∃ l : Nat, l < 16 ∧ bits .and .u8 (x0 : Int) 15 = l ∧ Bx (x0 % 16 = l) := ⟨_, Nat.mod_lt _ (by decide), and15 x0 hx0, ⟨rfl⟩⟩
  obtain ⟨g, eg, Hg⟩ : ∃ g : Nat, (l : Int) * 4 = g ∧ Bx (l * 4 = g) := ⟨l * 4, by omega, ⟨rfl⟩⟩
  rw [H0.out, Hl.out, Hg.out] at hg20 hgs
  have hg : g ≤ 60 := by have := Hg.out; omega
  have h1 : (1 : Int) < s.size := by omega
  have hgI : (g : Int) ≤ s.size := by omega
  have HC : Hid ((y == 1 || y == 2) = true) := hc
  clear hc
  obtain ⟨z, hz, ezz, Hz⟩ : ∃ z : Nat, z < 256 ∧ bits .or .u8 (x : Int) 3 = z ∧ Bx (x ||| 3 = z) := ⟨x ||| 3, (or_u8 x 3 hx (by decide)).2, (or_u8 x 3 hx (by decide)).1, ⟨rfl⟩⟩
  obtain ⟨m, hms, Hm⟩ : ∃ m : ByteArray, m.size = s.size ∧ Bx (put (put (put s 1 z) 10 0) 11 0 = m) := ⟨_, by rw [put_size, put_size, put_size], ⟨rfl⟩⟩
  have HU : Bx (unsummed s = m) := ⟨by rw [unsummed, Hx.out, Hz.out, Hm.out]⟩
  obtain ⟨F, HF⟩ : ∃ F, Hid (fold16 (wsum (m.extract 0 g) ((m.extract 0 g).size / 2)) = F) := ⟨_, rfl⟩
  have hF : F ≤ 65535 := by rw [← HF.out]; exact fold16_le _
  have HR : Bx (restOf s = 65535 - F) := ⟨by
    rw [restOf, HU.out, H0.out, Hl.out, Hg.out, ← HF.out, ByteArray.size_extract, show min g m.size - 0 = g by omega, wsum_extract m g (by omega) _ (by omega)]⟩
  obtain ⟨r, hr, er, Hr⟩ : ∃ r : Nat, r ≤ 65535 ∧ (65535 : Int) - F = r ∧ Bx (65535 - F = r) := ⟨65535 - F, by omega, by omega, ⟨rfl⟩⟩
  obtain ⟨r1, hr1, er1, Hr1⟩ : ∃ q : Nat, q < 256 ∧ bits .and .i64 (r : Int) 255 = q ∧ Bx (r % 256 = q) := ⟨r % 256, by omega, by have := i64_and_nat r 255 (by omega) (by decide); rw [nat_mask8] at this; exact this, ⟨rfl⟩⟩
  obtain ⟨r2, hr2, er2, Hr2⟩ : ∃ q : Nat, q < 256 ∧ (r : Int) / 256 = q ∧ Bx (r / 256 = q) := ⟨r / 256, by omega, by omega, ⟨rfl⟩⟩
  have HT : Bx (put (put m 10 r2) 11 r1 = t) := ⟨by rw [← ht.out, mark4, HU.out, HR.out, Hr.out, Hr1.out, Hr2.out]⟩
  have hts : t.size = s.size := by rw [← HT.out, put_size, put_size, hms]
  clear ht HR
  go_enter Try.func97, Try.ntmps97
  go_wp2_with fail
  refine (markable_any y true _ HC).mono ?_
  rintro e w1 ⟨rfl, rfl⟩
  go_wp2_with (refine wpList_bytes _ rfl 9 54 _ rfl 5 s Try.underlying9 Try.underlying54 Try.underlying5 rfl ?_)
  intro cap w2 hcell hfro hb2 hsz2 hcap
  have c1 := hcell 1 (by omega)
  rw [Hx.out] at c1
  have f1 := hfro 1 (by omega)
  have c10 := hcell 10 (by omega)
  have f10 := hfro 10 (by omega)
  have c11 := hcell 11 (by omega)
  have f11 := hfro 11 (by omega)
  have hat : BytesAt w2 w1.heap.size s := ⟨hcell⟩
  clear hcell hfro
  have hgc : (g : Int) ≤ cap := by omega
  go_wp2_with (refine wpList_back _ rfl 54 9 _ rfl 5 (m.extract 0 g) w1.heap.size 0 g _ Try.underlying54 Try.underlying9 Try.underlying5 rfl ?q1 ?q2 ?_)
  case q1 => rw [ByteArray.size_extract]; omega
  case q2 =>
    intro i hi
    rw [Nat.zero_add, byteAt_extract m 0 g i (by omega) (by omega), Nat.zero_add, ← Hm.out]
    exact (((hat.put 1 z (by omega) hz).put 10 0 (by rw [put_size]; omega) (by omega)).put 11 0 (by rw [put_size, put_size]; omega) (by omega)).cell i (by rw [put_size, put_size, put_size]; omega)
  have hat3 := ((hat.put 1 z (by omega) hz).put 10 0 (by rw [put_size]; omega) (by omega)).put 11 0 (by rw [put_size, put_size]; omega) (by omega)
  rw [Hm.out] at hat3
  refine (sum_any _ _ _ (by rw [ByteArray.size_extract]; omega) HF).mono ?_
  rintro e w3 ⟨rfl, hb3⟩
  have hbw : Below w1.heap.size w1 w3 := (((hb2.setCell (Nat.le_refl _) _).setCell (Nat.le_refl _) _).setCell (Nat.le_refl _) _).trans (hb3.mono (by simp [World.setCell]; omega))
  have hat4 := hat3.below hb3 (by simp [World.setCell]; omega)
  have d10 := hat4.cell 10 (by omega)
  have d11 := hat4.cell 11 (by omega)
  have g10 : w3.frozen? ⟨w1.heap.size, 10, none⟩ = false := (hb3.frozen (p := ⟨w1.heap.size, 10, none⟩) (by simp [World.setCell]; omega)).trans (by go_simp)
  have g11 : w3.frozen? ⟨w1.heap.size, 11, none⟩ = false := (hb3.frozen (p := ⟨w1.heap.size, 11, none⟩) (by simp [World.setCell]; omega)).trans (by go_simp)
  clear hb3 hat3 c1 c10 c11 f1 f10 f11
  go_wp2_with (refine wpList_back _ rfl 54 9 _ rfl 5 t w1.heap.size 0 s.size cap Try.underlying54 Try.underlying9 Try.underlying5 rfl ?q1 ?q2 ?_)
  case q1 => exact hts
  case q2 =>
    intro i hi
    rw [Nat.zero_add, ← HT.out]
    exact ((hat4.put 10 r2 (by omega) hr2).put 11 r1 (by rw [put_size]; omega) hr1).cell i (by rw [put_size, put_size]; omega)
  go_ret2
  exact ⟨rfl, (hbw.setCell (Nat.le_refl _) _).setCell (Nat.le_refl _) _⟩

theorem v4_facts (s : ByteArray) (h : versionOf s = 4) : 20 ≤ s.size ∧ 20 ≤ byteAt s 0 % 16 * 4 ∧ byteAt s 0 % 16 * 4 ≤ s.size := by
  unfold versionOf at h
  split at h
  · rename_i h4
    simp only [v4B, decide_eq_true_eq] at h4
    omega
  · split at h <;> omega

theorem v6_facts (s : ByteArray) (h : versionOf s = 6) : 40 ≤ s.size := by
  unfold versionOf at h
  split at h
  · omega
  · split at h
    · rename_i h6
      unfold flow6 at h6
      split at h6
      · rename_i hh; exact hh.1
      · simp at h6
    · omega

theorem version_046 (s : ByteArray) : versionOf s = 4 ∨ versionOf s = 6 ∨ versionOf s = 0 := by
  unfold versionOf; split
  · exact .inl rfl
  · split
    · exact .inr (.inl rfl)
    · exact .inr (.inr rfl)

set_option maxRecDepth 100000 in
set_option maxHeartbeats 800000 in
theorem set_any (s t : ByteArray) (b : Bool) (w : World) (hs : s.size ≤ 1000) (hb : Bx (canB s = b)) (ht : Bx (t = if b then markOf s else ⟨#[]⟩)) :
    Calls Try.prog 92 #[.string s] w fun e w' => e = .returned (.tuple #[.string t, .bool b]) ∧ Below w.heap.size w w' := by
  have hb' := hb.out
  have ht' := ht.out
  unfold canB at hb'
  unfold markOf at ht'
  clear hb ht
  rcases version_046 s with h | h | h
  · obtain ⟨f1, f2, f3⟩ := v4_facts s h
    rw [h] at hb' ht'
    simp only [if_true] at hb' ht'
    go_enter Try.func92, Try.ntmps92
    go_wp2_with fail
    refine (version_any s 4 _ hs h).mono ?_
    rintro e w1 ⟨rfl, hb1⟩
    cases b
    · have ht2 : t = ⟨#[]⟩ := ht'
      clear ht'
      subst ht2
      go_wp2_with fail
      refine (set4_no s _ f1 hs hb').mono ?_
      rintro e w2 ⟨rfl, hb2⟩
      go_wp2_with fail
      go_ret2
      exact ⟨rfl, hb1.trans (hb2.mono hb1.size)⟩
    · have HT2 : Bx (mark4 s = t) := ⟨Eq.symm ht'⟩
      clear ht'
      go_wp2_with fail
      refine (set4_yes s t _ f1 hs f2 f3 hb' HT2).mono ?_
      rintro e w2 ⟨rfl, hb2⟩
      go_wp2_with fail
      go_ret2
      exact ⟨rfl, hb1.trans (hb2.mono hb1.size)⟩
  · have f1 := v6_facts s h
    rw [h] at hb' ht'
    simp only [show ¬ (6 : Nat) = 4 by decide, if_true, if_false] at hb' ht'
    go_enter Try.func92, Try.ntmps92
    go_wp2_with fail
    refine (version_any s 6 _ hs h).mono ?_
    rintro e w1 ⟨rfl, hb1⟩
    cases b
    · have ht2 : t = ⟨#[]⟩ := ht'
      clear ht'
      subst ht2
      go_wp2_with fail
      refine (set6_no s _ f1 hs hb').mono ?_
      rintro e w2 ⟨rfl, hb2⟩
      go_wp2_with fail
      go_ret2
      exact ⟨rfl, hb1.trans (hb2.mono hb1.size)⟩
    · have HT2 : Bx (mark6 s = t) := ⟨Eq.symm ht'⟩
      clear ht'
      go_wp2_with fail
      refine (set6_yes s t _ f1 hs hb' HT2).mono ?_
      rintro e w2 ⟨rfl, hb2⟩
      go_wp2_with fail
      go_ret2
      exact ⟨rfl, hb1.trans (hb2.mono hb1.size)⟩
  · rw [h] at hb' ht'
    have hb2 : b = false := hb'.symm
    subst hb2
    have ht2 : t = ⟨#[]⟩ := ht'
    subst ht2
    clear hb' ht'
    go_enter Try.func92, Try.ntmps92
    go_wp2_with fail
    refine (version_any s 0 _ hs h).mono ?_
    rintro e w1 ⟨rfl, hb1⟩
    go_wp2_with fail
    go_ret2
    exact ⟨rfl, hb1⟩

end Go.Proofs.Ytnkicbopebgppaa

namespace Go.Proofs.Ytnkicbopebgppaa
open Go.RowKit Fl

/-- A frame that waits. -/
structure Fm where
  id : Nat
  s : ByteArray
  since : Nat

def Fm.cells (f : Fm) : List Value := [.int .i64 f.id, .string f.s, .int .i64 f.since]
def fmCells (l : List Fm) : List Value := l.flatMap Fm.cells
def anyG : Nat → Value → Prop := fun _ _ => True

theorem fmCells_length (l : List Fm) : (fmCells l).length = l.length * 3 := by
  induction l with
  | nil => rfl
  | cons f l ih => simp only [fmCells, List.flatMap_cons, List.length_append] at ih ⊢; rw [ih]; simp [Fm.cells]; omega

theorem fmCells_snoc (l : List Fm) (f : Fm) : fmCells (l ++ [f]) = fmCells l ++ f.cells := by simp [fmCells]

theorem infoFrame : (Try.prog.info? 98).map (fun i => (i.zero, i.size, i.bytes)) = some (some (.agg #[.int .i64 0, .string ⟨#[]⟩, .int .i64 0]), 3, 32) := by kernel_rfl

set_option maxRecDepth 100000 in
set_option maxHeartbeats 800000 in
theorem qjoin_any (own : Nat → Nat) (tB tq b o N ty : Nat) (f : Nat → Value) (v : Value) (l : List Fm) (nb : Nat) (fr : Fm) (w : World)
    (hrow : Row own w tB b ty N f) (ho : o + 1 < N) (hv : f o = v) (hnb : f (o + 1) = .int .i64 nb) (hsl : Sl anyG own w tq 3 v l.length (fmCells l)) (htt : tq ≠ tB)
    (hl : l.length ≤ 1000) (hs : fr.s.size ≤ 1000) (hb : nb ≤ 1000000) :
    Calls Try.prog 61 #[.pointer (some ⟨b, o, none⟩), .agg #[.int .i64 fr.id, .string fr.s, .int .i64 fr.since]] w fun e w' =>
      e = .returned (.tuple #[]) ∧ ∃ v' own', Sl anyG own' w' tq 3 v' (l ++ [fr]).length (fmCells (l ++ [fr])) ∧
        Row own' w' tB b ty N (fun j => if j = o + 1 then .int .i64 (nb + fr.s.size : Nat) else if j = o then v' else f j) ∧ Fr (fun t => t = tB ∨ t = tq) own own' w w' := by
  obtain ⟨i0, hi, hz0, hz1, hz2⟩ := info_parts infoFrame
  have c0 := hrow.row.cell (i := o) (by omega)
  have c1 := hrow.row.cell ho
  rw [hv] at c0
  rw [hnb] at c1
  have hfz := hrow.row.frozen
  have hblt := hrow.row.lt
  go_enter Try.func61, Try.ntmps61
  go_wp2_with fail
  have hn1 : ∀ u ∈ fr.cells, u.oneCell' = true := by intro u hu; simp only [Fm.cells, List.mem_cons, List.not_mem_nil, or_false] at hu; rcases hu with rfl | rfl | rfl <;> rfl
  have HN1 : Bx _ := ⟨hn1⟩
  clear hn1
  go_region_law (refine step_append_sl rfl (.tmp 8) (.tmp 10) 91 rfl 98 i0 _ 3 32 Try.underlying91 hi hz0 hz1 hz2 rfl (by decide) anyG (upd own w.heap.size tB) tq v l.length (fmCells l) (by simp [Act.eval]) (hsl.fr (frTwo (fun _ => False) own w _ _ tB) id) ⟨w.heap.size + 1, 0, none⟩ 1 1 fr.cells (by simp [Act.eval]) rfl (cells3 (by go_simp) (by go_simp) (by go_simp)) HN1.out (fun _ _ _ => trivial) (fun _ _ _ => trivial) (by decide) (by unfold maxLen; omega) (by omega) ?_; intro v' w1 own1 hsl1 hfr1 hv1; obtain ⟨b1, k1, hv1⟩ := hv1; have hrow1 := (hrow.fr (frTwo (fun _ => False) own w _ _ tB) id).fr hfr1 (fun e => htt e.symm); have d0 := hrow1.row.cell (i := o) (by omega); rw [hv] at d0; have d1 := hrow1.row.cell ho; rw [hnb] at d1; have dz := hrow1.row.frozen; have dbox : w1.cell? ⟨w.heap.size, 1, none⟩ = some (.string fr.s) := (hfr1.cell (b := w.heap.size) 1 (by simp; omega) (by rw [upd_same]; exact fun e => htt e.symm)).trans (by go_simp))
  all_goals
    have hne1 : ¬ b = w.heap.size := by omega
    have hne2 : ¬ w.heap.size = b := by omega
    go_wp2_with fail
    go_region
    go_wp2_with fail
    go_end0
    subst hv1
    have hfr2 : Fr (fun t => t = tB ∨ t = tq) own own1 w w1 := (frTwo _ own w _ _ tB).trans (hfr1.mono (fun t e => .inr e))
    have hset := (hrow1.set o (.slice (some b1) (l.length + 1) k1)).set (o + 1) (.int .i64 ((nb : Int) + fr.s.size))
    refine ⟨rfl, .slice (some b1) (l.length + 1) k1, own1, ?_, ?_, ?_⟩
    · rw [fmCells_snoc, List.length_append]
      exact hsl1.fr (T := fun t => t = tB) ((((Fr.refl _ own1 w1).setCell b o _ hrow1.tag).setCell b (o + 1) _ hrow1.tag).drew) htt
    · exact ⟨hset.tag, hset.row⟩
    · exact (((hfr2.setCell b o _ (.inl hrow1.tag)).setCell b (o + 1) _ (.inl hrow1.tag)).drew)

end Go.Proofs.Ytnkicbopebgppaa
