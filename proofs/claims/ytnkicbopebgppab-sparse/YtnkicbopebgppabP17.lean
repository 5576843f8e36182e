import Derived.Test.YtnkicbopebgppabP16
import Derived.Test.YtnkicbopebgppabP09
/-! What is claimed of a frame. -/
namespace Go.Proofs.Ytnkicbopebgppab
open Go.RowKit Fl

/-- A frame in a box of its own. -/
structure FqAt (w : World) (gb : Nat) (f : Fq) : Prop where
  f0 : w.cell? ⟨gb, 0, none⟩ = some (.string f.s)
  f1 : w.cell? ⟨gb, 1, none⟩ = some (.int .i64 f.at_)
  f2 : w.cell? ⟨gb, 2, none⟩ = some (.bool f.able)
  f3 : w.cell? ⟨gb, 3, none⟩ = some (.bool f.gone)
  f4 : w.cell? ⟨gb, 4, none⟩ = some (.int .i64 f.first)
  f5 : w.cell? ⟨gb, 5, none⟩ = some (.int .i64 f.soon)
  z : ∀ i, w.frozen? ⟨gb, i, none⟩ = false

theorem FqAt.below {w w' : World} {gb : Nat} {f : Fq} (h : FqAt w gb f) (k : Below w.heap.size w w') (hlt : gb < w.heap.size) : FqAt w' gb f :=
  ⟨(k.cell (p := ⟨gb, 0, none⟩) hlt).trans h.f0, (k.cell (p := ⟨gb, 1, none⟩) hlt).trans h.f1, (k.cell (p := ⟨gb, 2, none⟩) hlt).trans h.f2, (k.cell (p := ⟨gb, 3, none⟩) hlt).trans h.f3, (k.cell (p := ⟨gb, 4, none⟩) hlt).trans h.f4, (k.cell (p := ⟨gb, 5, none⟩) hlt).trans h.f5, fun i => (k.frozen (p := ⟨gb, i, none⟩) hlt).trans (h.z i)⟩

theorem FqAt.first {w : World} {gb : Nat} {f : Fq} (h : FqAt w gb f) (x : Int) : FqAt (w.setCell ⟨gb, 4, none⟩ (.int .i64 x)) gb { f with first := x } := by
  have ne : ∀ j, j ≠ 4 → (w.setCell ⟨gb, 4, none⟩ (.int .i64 x)).cell? ⟨gb, j, none⟩ = w.cell? ⟨gb, j, none⟩ := fun j hj => World.cell?_setCell_other _ _ _ _ (fun e => by injection e with _ e; omega)
  exact ⟨(ne 0 (by omega)).trans h.f0, (ne 1 (by omega)).trans h.f1, (ne 2 (by omega)).trans h.f2, (ne 3 (by omega)).trans h.f3, World.cell?_setCell_same _ _ _ h.f4, (ne 5 (by omega)).trans h.f5, fun i => by rw [World.frozen?_setCell]; exact h.z i⟩
theorem FqAt.soon {w : World} {gb : Nat} {f : Fq} (h : FqAt w gb f) (x : Int) : FqAt (w.setCell ⟨gb, 5, none⟩ (.int .i64 x)) gb { f with soon := x } := by
  have ne : ∀ j, j ≠ 5 → (w.setCell ⟨gb, 5, none⟩ (.int .i64 x)).cell? ⟨gb, j, none⟩ = w.cell? ⟨gb, j, none⟩ := fun j hj => World.cell?_setCell_other _ _ _ _ (fun e => by injection e with _ e; omega)
  exact ⟨(ne 0 (by omega)).trans h.f0, (ne 1 (by omega)).trans h.f1, (ne 2 (by omega)).trans h.f2, (ne 3 (by omega)).trans h.f3, (ne 4 (by omega)).trans h.f4, World.cell?_setCell_same _ _ _ h.f5, fun i => by rw [World.frozen?_setCell]; exact h.z i⟩

theorem countTo_le (P : Nat → Bool) : ∀ n, countTo P n ≤ n
  | 0 => Nat.le_refl _
  | n + 1 => by
    have := countTo_le P n
    show countTo P n + (if P n = true then 1 else 0) ≤ n + 1
    split <;> omega

/-- Where the count of the others stands. -/
structure ClR (w wr : World) (gc : Nat) (b : Bo) : Prop where
  b0 : wr.cell? ⟨gc, 0, none⟩ = some (.int .i64 b.on.buckets)
  b1 : wr.cell? ⟨gc, 1, none⟩ = some (.int .i64 b.on.quantum)
  b4 : wr.cell? ⟨gc, 4, none⟩ = some (.int .i64 b.on.length)
  b7 : wr.cell? ⟨gc, 7, none⟩ = some (.int .i64 b.on.tau)
  be : Below w.heap.size w wr
  lt : gc < wr.heap.size

theorem ClR.drewN {w wr : World} {gc : Nat} {b : Bo} (h : ClR w wr gc b) (n : Nat) : ClR w (wr.drewN n) gc b := ⟨h.b0, h.b1, h.b4, h.b7, h.be.drewN n, h.lt⟩

/-- Where claiming stands behind the count. -/
structure ClT (own : Nat → Nat) (w wr : World) (a hd : Nat) (c : Cf) (ax : Nat) (vF vH : Value) (g : Nat → Nat) (b : Bo) (gb gc : Nat) (F : Fq) : Prop where
  bo : BoIs own wr a hd c ax vF vH g b
  fq : FqAt wr gb F
  b0 : wr.cell? ⟨gc, 0, none⟩ = some (.int .i64 b.on.buckets)
  b1 : wr.cell? ⟨gc, 1, none⟩ = some (.int .i64 b.on.quantum)
  b4 : wr.cell? ⟨gc, 4, none⟩ = some (.int .i64 b.on.length)
  b7 : wr.cell? ⟨gc, 7, none⟩ = some (.int .i64 b.on.tau)
  on : Only gb w wr

theorem ClT.drewN {own : Nat → Nat} {w wr : World} {a hd : Nat} {c : Cf} {ax : Nat} {vF vH : Value} {g : Nat → Nat} {b : Bo} {gb gc : Nat} {F : Fq} (h : ClT own w wr a hd c ax vF vH g b gb gc F) (n : Nat) : ClT own w (wr.drewN n) a hd c ax vF vH g b gb gc F :=
  ⟨h.bo.below ((Below.refl _ _).drewN n), ⟨h.fq.f0, h.fq.f1, h.fq.f2, h.fq.f3, h.fq.f4, h.fq.f5, h.fq.z⟩, h.b0, h.b1, h.b4, h.b7, ⟨h.on.os, h.on.tape, h.on.output, h.on.size, h.on.block⟩⟩
theorem ClT.drew {own : Nat → Nat} {w wr : World} {a hd : Nat} {c : Cf} {ax : Nat} {vF vH : Value} {g : Nat → Nat} {b : Bo} {gb gc : Nat} {F : Fq} (h : ClT own w wr a hd c ax vF vH g b gb gc F) : ClT own w wr.drew a hd c ax vF vH g b gb gc F :=
  ⟨h.bo.below ((Below.refl _ _).drew), ⟨h.fq.f0, h.fq.f1, h.fq.f2, h.fq.f3, h.fq.f4, h.fq.f5, h.fq.z⟩, h.b0, h.b1, h.b4, h.b7, h.on.drew⟩
theorem ClT.set {own : Nat → Nat} {w wr : World} {a hd : Nat} {c : Cf} {ax : Nat} {vF vH : Value} {g : Nat → Nat} {b : Bo} {gb gc : Nat} {F F' : Fq} (h : ClT own w wr a hd c ax vF vH g b gb gc F) (hgb : own gb = 0) (hne : gc ≠ gb) (j : Nat) (u : Value) (hf : FqAt (wr.setCell ⟨gb, j, none⟩ u) gb F') : ClT own w (wr.setCell ⟨gb, j, none⟩ u) a hd c ax vF vH g b gb gc F' := by
  have ne : ∀ i, (wr.setCell ⟨gb, j, none⟩ u).cell? ⟨gc, i, none⟩ = wr.cell? ⟨gc, i, none⟩ := fun i => World.cell?_setCell_other _ _ _ _ (fun e => by injection e with e _; exact hne e.symm)
  exact ⟨h.bo.fr (TT := fun t => t = 0) ((Fr.refl _ own wr).setCell gb _ _ hgb) (fun t ht e => by have := ht.1; omega), hf, (ne 0).trans h.b0, (ne 1).trans h.b1, (ne 4).trans h.b4, (ne 7).trans h.b7, h.on.setCell j u⟩

set_option maxRecDepth 100000 in
set_option maxHeartbeats 6400000 in
theorem claims_any (own : Nat → Nat) (a hd : Nat) (c : Cf) (ax : Nat) (b : Bo) (k gb : Nat) (t : ByteArray) (now : Nat) (able : Bool) (w : World) (h : BoAt own w a hd c ax b) (hc : b.on.ok) (hk : k < b.on.buckets) (hf : FqAt w gb ⟨t, now, able, false, -1, -1⟩) (hgb : own gb = 0) (hlt : gb < w.heap.size) (hnow : now ≤ 4611686018427387904) (ht : t.size ≤ 200) (hs : b.size k ≤ 20000) (hold : b.old = false) :
    Calls Try.prog 30 #[.pointer (some ⟨a, 0, none⟩), .pointer (some ⟨gb, 0, none⟩), .int .i64 k] w fun e w' => e = .returned (.tuple #[]) ∧ FqAt w' gb (b.claimed k t now able) ∧ Only gb w w' := by
  obtain ⟨vF, vH, g, h⟩ := h
  obtain ⟨K, HK⟩ : ∃ K, Bx (b.others k = K) := ⟨_, ⟨rfl⟩⟩
  have hK : K ≤ 16 := by rw [← HK.out]; exact Nat.le_trans (countTo_le _ _) hc.b2
  have hQ1 := hc.q1; have hQ2 := hc.q2; have hL1 := hc.l1; have hL2 := hc.l2; have hU1 := hc.u1; have hU2 := hc.u2; have hB1 := hc.b1; have hB2 := hc.b2
  have C14 : ∀ j, j < 10 → w.cell? ⟨a, 14 + j, none⟩ = some (cfF b.on j) := fun j hj => (h.cell (14 + j) (by omega)).trans (by
    match j, hj with | 0, _ => rfl | 1, _ => rfl | 2, _ => rfl | 3, _ => rfl | 4, _ => rfl | 5, _ => rfl | 6, _ => rfl | 7, _ => rfl | 8, _ => rfl | 9, _ => rfl)
  have c14 : w.cell? ⟨a, 14, none⟩ = some (.int .i64 b.on.buckets) := C14 0 (by omega)
  have c15 : w.cell? ⟨a, 15, none⟩ = some (.int .i64 b.on.quantum) := C14 1 (by omega)
  have c16 : w.cell? ⟨a, 16, none⟩ = some (.int .i64 b.on.packets) := C14 2 (by omega)
  have c17 : w.cell? ⟨a, 17, none⟩ = some (.int .i64 b.on.memory) := C14 3 (by omega)
  have c18 : w.cell? ⟨a, 18, none⟩ = some (.int .i64 b.on.length) := C14 4 (by omega)
  have c19 : w.cell? ⟨a, 19, none⟩ = some (.int .i64 b.on.target) := C14 5 (by omega)
  have c20 : w.cell? ⟨a, 20, none⟩ = some (.int .i64 b.on.interval) := C14 6 (by omega)
  have c21 : w.cell? ⟨a, 21, none⟩ = some (.int .i64 b.on.tau) := C14 7 (by omega)
  have c22 : w.cell? ⟨a, 22, none⟩ = some (.bool b.on.ecn) := C14 8 (by omega)
  have c23 : w.cell? ⟨a, 23, none⟩ = some (.string b.on.key) := C14 9 (by omega)
  have H : Bx _ := ⟨h⟩
  have HF : Bx _ := ⟨hf⟩
  have HOLD : Bx _ := ⟨hold⟩
  clear h hf C14 hold hc
  go_enter Try.func30, Try.ntmps30
  go_wp2_with fail
  clear c14 c15 c16 c17 c18 c19 c20 c21 c22 c23
  have HR0 : Bx (ClR w (w.alloc (Obj.cells #[.int .i64 b.on.buckets, .int .i64 b.on.quantum, .int .i64 b.on.packets, .int .i64 b.on.memory, .int .i64 b.on.length, .int .i64 b.on.target, .int .i64 b.on.interval, .int .i64 b.on.tau, .bool b.on.ecn, .string b.on.key] 29)) w.heap.size b) := by
    have hc : ∀ i u, #[Value.int .i64 b.on.buckets, .int .i64 b.on.quantum, .int .i64 b.on.packets, .int .i64 b.on.memory, .int .i64 b.on.length, .int .i64 b.on.target, .int .i64 b.on.interval, .int .i64 b.on.tau, .bool b.on.ecn, .string b.on.key][i]? = some u → (w.alloc (Obj.cells #[.int .i64 b.on.buckets, .int .i64 b.on.quantum, .int .i64 b.on.packets, .int .i64 b.on.memory, .int .i64 b.on.length, .int .i64 b.on.target, .int .i64 b.on.interval, .int .i64 b.on.tau, .bool b.on.ecn, .string b.on.key] 29)).cell? ⟨w.heap.size, i, none⟩ = some u := by
      intro i u hu
      rw [World.cell?_alloc_at _ _ _ _ rfl]
      exact hu
    exact ⟨⟨hc 0 _ rfl, hc 1 _ rfl, hc 4 _ rfl, hc 7 _ rfl, (Below.refl _ _).alloc (Nat.le_refl _) _, by simp⟩⟩
  obtain ⟨gc, Hgc⟩ : ∃ gc, Bx (w.heap.size = gc) := ⟨_, ⟨rfl⟩⟩
  have hgc : ¬ gb = gc := by have := Hgc.out; omega
  have hgc2 : ¬ gc = gb := by have := Hgc.out; omega
  rw [Hgc.out] at HR0
  generalize w.alloc (Obj.cells #[.int .i64 b.on.buckets, .int .i64 b.on.quantum, .int .i64 b.on.packets, .int .i64 b.on.memory, .int .i64 b.on.length, .int .i64 b.on.target, .int .i64 b.on.interval, .int .i64 b.on.tau, .bool b.on.ecn, .string b.on.key] 29) = w1 at *
  rw [Hgc.out]
  go_loopg [7, 8] b.on.buckets (fun r v7 v8 wr => ∃ i : Nat, v8 = .int .i64 i ∧ i + r = b.on.buckets ∧ v7 = .int .i64 (countTo (fun i => i != k && b.used i && decide (b.turn i < b.on.quantum)) i : Nat) ∧ ClR w wr gc b)
  case atStart => exact ⟨0, rfl, by omega, rfl, HR0.out⟩
  case round =>
    clear HR0
    obtain ⟨i, rfl, hi, rfl, hR⟩ := hrel
    have b0 := hR.b0
    have hB := H.out.below hR.be
    have hcl := countTo_le (fun i => i != k && b.used i && decide (b.turn i < b.on.quantum)) i
    by_cases hil : i < b.on.buckets
    · obtain ⟨r', rfl⟩ : ∃ r', gk = r' + 1 := ⟨gk - 1, by omega⟩
      have i1 : (i : Int) < b.on.buckets := by omega
      have b1 := hR.b1
      have c32 : wr.cell? ⟨a, 32, none⟩ = some (.slice (some ⟨g 3, 0, none⟩) b.on.buckets b.on.buckets) := hB.cell 32 (by omega)
      have c31 : wr.cell? ⟨a, 31, none⟩ = some (.slice (some ⟨g 2, 0, none⟩) b.on.buckets b.on.buckets) := hB.cell 31 (by omega)
      have us : wr.cell? ⟨g 3, i, none⟩ = some (.bool (b.used i)) := hB.us.row.cell hil
      have tu : wr.cell? ⟨g 2, i, none⟩ = some (.int .i64 (b.turn i : Nat)) := hB.tu.row.cell hil
      have hstep : countTo (fun i => i != k && b.used i && decide (b.turn i < b.on.quantum)) (i + 1) = countTo (fun i => i != k && b.used i && decide (b.turn i < b.on.quantum)) i + if (i != k && b.used i && decide (b.turn i < b.on.quantum)) = true then 1 else 0 := rfl
      have HST : Bx _ := ⟨hstep⟩
      obtain ⟨N, HN⟩ : ∃ N, Bx (countTo (fun i => i != k && b.used i && decide (b.turn i < b.on.quantum)) i = N) := ⟨_, ⟨rfl⟩⟩
      rw [HN.out] at HST hcl ⊢
      have HR : Bx _ := ⟨hR⟩
      clear hstep hR hB
      by_cases e1 : i = k
      · have x1 : ((i : Int) != (k : Int)) = false := by simp [e1]
        have HE : Bx (countTo (fun i => i != k && b.used i && decide (b.turn i < b.on.quantum)) (i + 1) = N) := ⟨by rw [HST.out]; simp [e1]⟩
        have e1' : (i : Int) = k := by omega
        go_wp2_with fail
        go_quiet (fail)
        go_wp2_with fail
        go_roundg r'
        case rel => exact ⟨i + 1, by go_num, by omega, by rw [HE.out], HR.out.drewN _⟩
        case measure => omega
      · have x1 : ((i : Int) != (k : Int)) = true := by simp; omega
        have x2 : ¬ (i : Int) = k := by omega
        cases hu : b.used i with
        | false =>
          rw [hu] at us
          have HE : Bx (countTo (fun i => i != k && b.used i && decide (b.turn i < b.on.quantum)) (i + 1) = N) := ⟨by rw [HST.out]; simp [hu]⟩
          go_wp2_with fail
          go_quiet (fail)
          go_wp2_with fail
          go_roundg r'
          case rel => exact ⟨i + 1, by go_num, by omega, by rw [HE.out], HR.out.drewN _⟩
          case measure => omega
        | true =>
          rw [hu] at us
          by_cases e3 : b.turn i < b.on.quantum
          · have HE : Bx (countTo (fun i => i != k && b.used i && decide (b.turn i < b.on.quantum)) (i + 1) = N + 1) := ⟨by rw [HST.out]; simp [hu, e1, e3]⟩
            have x3 : ((b.turn i : Nat) : Int) < b.on.quantum := by omega
            go_wp2_with fail
            go_quiet (fail)
            go_wp2_with fail
            go_roundg r'
            case rel => exact ⟨i + 1, by go_num, by omega, by rw [HE.out]; go_num, HR.out.drewN _⟩
            case measure => omega
          · have HE : Bx (countTo (fun i => i != k && b.used i && decide (b.turn i < b.on.quantum)) (i + 1) = N) := ⟨by rw [HST.out]; simp [e3]⟩
            have x3 : ¬ ((b.turn i : Nat) : Int) < b.on.quantum := by omega
            have x4 : decide (((b.turn i : Nat) : Int) < b.on.quantum) = false := decide_eq_false x3
            go_wp2_with fail
            go_quiet (fail)
            go_wp2_with fail
            go_roundg r'
            case rel => exact ⟨i + 1, by go_num, by omega, by rw [HE.out], HR.out.drewN _⟩
            case measure => omega
    · have i1 : ¬ (i : Int) < b.on.buckets := by omega
      have hin : i = b.on.buckets := by omega
      have HKK : Bx (countTo (fun i => i != k && b.used i && decide (b.turn i < b.on.quantum)) i = K) := ⟨by rw [hin]; exact HK.out⟩
      rw [HKK.out]
      have HR : Bx _ := ⟨hR⟩
      clear hR hB hin
      have c32 : wr.cell? ⟨a, 32, none⟩ = some (.slice (some ⟨g 3, 0, none⟩) b.on.buckets b.on.buckets) := (H.out.below HR.out.be).cell 32 (by omega)
      have us : wr.cell? ⟨g 3, k, none⟩ = some (.bool (b.used k)) := (H.out.below HR.out.be).us.row.cell hk
      have i2 : (k : Int) < b.on.buckets := by omega
      have HFq : Bx _ := ⟨HF.out.below HR.out.be hlt⟩
      have hgl : gb < wr.heap.size := Nat.lt_of_lt_of_le hlt HR.out.be.size
      have HOn : Bx (Only gb w wr) := ⟨⟨HR.out.be.os, HR.out.be.tape, HR.out.be.output, HR.out.be.size, fun x hx _ => HR.out.be.block x hx⟩⟩
      obtain ⟨V, HV, v1, v2⟩ : ∃ V : Nat, Bx (b.on.quantum + b.on.length - 1 = V) ∧ V ≤ 1199 ∧ ((b.on.quantum : Nat) : Int) + (b.on.length : Nat) - 1 = V := ⟨_, ⟨rfl⟩, by omega, by omega⟩
      obtain ⟨KV, HKV, v3, v4⟩ : ∃ KV : Nat, Bx (K * V = KV) ∧ KV ≤ 16 * 1199 ∧ (K : Int) * (V : Nat) = KV := ⟨_, ⟨rfl⟩, Nat.mul_le_mul hK v1, by simp⟩
      obtain ⟨X1, HX1, v5, v6⟩ : ∃ X1 : Nat, Bx ((b.on.length + KV) * b.on.tau = X1) ∧ X1 ≤ 20000 * 1048576 ∧ (((b.on.length : Nat) : Int) + KV) * (b.on.tau : Nat) = X1 := ⟨_, ⟨rfl⟩, Nat.mul_le_mul (by omega) hU2, by simp⟩
      obtain ⟨S, HS, v7, v8⟩ : ∃ S : Nat, Bx (b.size k + t.size + b.on.length = S) ∧ S ≤ 20400 ∧ ((b.size k : Nat) : Int) + (t.size : Nat) + (b.on.length : Nat) = S := ⟨_, ⟨rfl⟩, by omega, by simp⟩
      obtain ⟨Rr, HRr, v9, v10⟩ : ∃ Rr : Nat, Bx ((S + b.on.quantum - 1) / b.on.quantum + 3 = Rr) ∧ Rr ≤ 21403 ∧ ((S : Int) + (b.on.quantum : Nat) - 1).tdiv (b.on.quantum : Nat) + 3 = Rr := by
        refine ⟨_, ⟨rfl⟩, ?_, ?_⟩
        · have := Nat.div_le_self (S + b.on.quantum - 1) b.on.quantum
          omega
        · rw [show (S : Int) + (b.on.quantum : Nat) - 1 = ((S + b.on.quantum - 1 : Nat) : Int) by omega]
          rw [Int.tdiv_eq_ediv_of_nonneg (by omega)]
          simp
      obtain ⟨Y1, HY1, v11, v12⟩ : ∃ Y1 : Nat, Bx (Rr * 2 * b.on.buckets = Y1) ∧ Y1 ≤ 42806 * 16 ∧ (Rr : Int) * 2 * (b.on.buckets : Nat) = Y1 := ⟨_, ⟨rfl⟩, Nat.mul_le_mul (by omega) hB2, by simp⟩
      obtain ⟨Y2, HY2, v13, v14⟩ : ∃ Y2 : Nat, Bx (Y1 * (b.on.quantum + b.on.length) = Y2) ∧ Y2 ≤ 684896 * 1200 ∧ (Y1 : Int) * ((b.on.quantum : Nat) + (b.on.length : Nat)) = Y2 := ⟨_, ⟨rfl⟩, Nat.mul_le_mul (by omega) (by omega), by simp⟩
      obtain ⟨X2, HX2, v15, v16⟩ : ∃ X2 : Nat, Bx (Y2 * b.on.tau = X2) ∧ X2 ≤ 821875200 * 1048576 ∧ (Y2 : Int) * (b.on.tau : Nat) = X2 := ⟨_, ⟨rfl⟩, Nat.mul_le_mul (by omega) hU2, by simp⟩
      have HSO : Bx ((((now + ((b.size k + t.size + b.on.length + b.on.quantum - 1) / b.on.quantum + 3) * 2 * b.on.buckets * (b.on.quantum + b.on.length) * b.on.tau : Nat) : Int)) = ((now + X2 : Nat) : Int)) := ⟨by rw [HS.out, HRr.out, HY1.out, HY2.out, HX2.out]⟩
      have HFI : Bx ((((now + (b.on.length + b.others k * (b.on.quantum + b.on.length - 1)) * b.on.tau : Nat) : Int)) = ((now + X1 : Nat) : Int)) := ⟨by rw [HK.out, HV.out, HKV.out, HX1.out]⟩
      cases hu : b.used k with
      | true =>
        rw [hu] at us
        have HCL : Bx (b.claimed k t now able = ⟨t, now, able, false, -1, ((now + X2 : Nat) : Int)⟩) := ⟨by unfold Bo.claimed; rw [if_neg (by rw [HOLD.out]; simp), if_pos hu, HSO.out]⟩
        go_wp2_with fail
        clear c32 us b0
        have HT : Bx (ClT own w wr a hd c ax vF vH g b gb gc ⟨t, now, able, false, -1, -1⟩) := ⟨⟨H.out.below HR.out.be, HFq.out, HR.out.b0, HR.out.b1, HR.out.b4, HR.out.b7, HOn.out⟩⟩
        clear HR HFq HOn
        go_wp2_with fail
        have c33 : wr.cell? ⟨a, 33, none⟩ = some (.slice (some ⟨g 4, 0, none⟩) b.on.buckets b.on.buckets) := HT.out.bo.cell 33 (by omega)
        have si : wr.cell? ⟨g 4, k, none⟩ = some (.int .i64 (b.size k : Nat)) := HT.out.bo.si.row.cell hk
        have f0 : wr.cell? ⟨gb, 0, none⟩ = some (.string t) := HT.out.fq.f0
        have b4 := HT.out.b4
        go_quiet (fail)
        have HT2 : Bx _ := ⟨HT.out.drewN nq⟩
        clear c33 si f0 b4 HT
        generalize wr.drewN nq = wT at *
        have b0 := HT2.out.b0; have b1 := HT2.out.b1; have b4 := HT2.out.b4; have b7 := HT2.out.b7
        have f1 : wT.cell? ⟨gb, 1, none⟩ = some (.int .i64 now) := HT2.out.fq.f1
        have f5 : wT.cell? ⟨gb, 5, none⟩ = some (.int .i64 (-1)) := HT2.out.fq.f5
        have fz := HT2.out.fq.z
        have HT3 : Bx _ := ⟨HT2.out.set hgb hgc2 5 (.int .i64 ((now : Int) + X2)) (HT2.out.fq.soon _)⟩
        clear HT2
        go_wp2_with fail
        go_region
        all_goals go_wp2_with fail
        all_goals go_end0
        all_goals exact ⟨rfl, by rw [HCL.out]; exact (HT3.out.drew).fq, (HT3.out.drew).on⟩
      | false =>
        rw [hu] at us
        have HCL : Bx (b.claimed k t now able = ⟨t, now, able, false, ((now + X1 : Nat) : Int), ((now + X2 : Nat) : Int)⟩) := ⟨by unfold Bo.claimed; rw [if_neg (by rw [HOLD.out]; simp), if_neg (by rw [hu]; simp), HSO.out, HFI.out]⟩
        go_wp2_with fail
        clear c32 us b0
        have HT0 : Bx (ClT own w wr a hd c ax vF vH g b gb gc ⟨t, now, able, false, -1, -1⟩) := ⟨⟨H.out.below HR.out.be, HFq.out, HR.out.b0, HR.out.b1, HR.out.b4, HR.out.b7, HOn.out⟩⟩
        have b1 := HR.out.b1; have b4 := HR.out.b4; have b7 := HR.out.b7
        have f1 : wr.cell? ⟨gb, 1, none⟩ = some (.int .i64 now) := HFq.out.f1
        have f4 : wr.cell? ⟨gb, 4, none⟩ = some (.int .i64 (-1)) := HFq.out.f4
        have fz := HFq.out.z
        have HT : Bx (ClT own w (wr.setCell ⟨gb, 4, none⟩ (.int .i64 ((now : Int) + X1))).drew a hd c ax vF vH g b gb gc ⟨t, now, able, false, ((now + X1 : Nat) : Int), -1⟩) := ⟨(HT0.out.set hgb hgc2 4 (.int .i64 ((now : Int) + X1)) (HT0.out.fq.first _)).drew⟩
        clear HT0 HR HFq HOn
        go_region
        all_goals clear b1 b4 b7 f1 f4 fz
        all_goals generalize (wr.setCell ⟨gb, 4, none⟩ (.int .i64 ((now : Int) + X1))).drew = w9 at *
        go_wp2_with fail
        have c33 : w9.cell? ⟨a, 33, none⟩ = some (.slice (some ⟨g 4, 0, none⟩) b.on.buckets b.on.buckets) := HT.out.bo.cell 33 (by omega)
        have si : w9.cell? ⟨g 4, k, none⟩ = some (.int .i64 (b.size k : Nat)) := HT.out.bo.si.row.cell hk
        have f0 : w9.cell? ⟨gb, 0, none⟩ = some (.string t) := HT.out.fq.f0
        have b4 := HT.out.b4
        go_quiet (fail)
        have HT2 : Bx _ := ⟨HT.out.drewN nq⟩
        clear c33 si f0 b4 HT
        generalize w9.drewN nq = wT at *
        have b0 := HT2.out.b0; have b1 := HT2.out.b1; have b4 := HT2.out.b4; have b7 := HT2.out.b7
        have f1 : wT.cell? ⟨gb, 1, none⟩ = some (.int .i64 now) := HT2.out.fq.f1
        have f5 : wT.cell? ⟨gb, 5, none⟩ = some (.int .i64 (-1)) := HT2.out.fq.f5
        have fz := HT2.out.fq.z
        have HT3 : Bx _ := ⟨HT2.out.set hgb hgc2 5 (.int .i64 ((now : Int) + X2)) (HT2.out.fq.soon _)⟩
        clear HT2
        go_wp2_with fail
        go_region
        all_goals go_wp2_with fail
        all_goals go_end0
        all_goals exact ⟨rfl, by rw [HCL.out]; exact (HT3.out.drew).fq, (HT3.out.drew).on⟩

end Go.Proofs.Ytnkicbopebgppab
