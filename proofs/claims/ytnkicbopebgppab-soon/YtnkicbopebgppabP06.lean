import Derived.Test.YtnkicbopebgppabP05
import Derived.Test.YtnkicbopebgppabP02
import Derived.Test.YtnkicbopebgppabP01
namespace Go.Proofs.Ytnkicbopebgppab
open Go.RowKit Fl

theorem bytesTo_le (bk : Nat → Bk) : ∀ n, (∀ i, i < n → ∀ x ∈ (bk i).q, x.s.size ≤ 200) → bytesTo bk n ≤ 200 * framesTo bk n := by
  intro n
  induction n with
  | zero => intro _; simp [bytesTo]
  | succ n ih =>
    intro h
    rw [bytesTo, framesTo]
    have h1 := ih (fun i hi => h i (by omega))
    have h2 := qBytes_le _ (h n (by omega))
    omega

set_option maxHeartbeats 800000 in
theorem pheld_any (own : Nat → Nat) (T a : Nat) (cn : Nat → Nat) (p : Pt) (w : World) (h : PcAt own w T a cn p) (hb : p.c.buckets ≤ 16) (hf : framesTo p.bk p.c.buckets ≤ 100) (hby : ∀ i, i < p.c.buckets → ∀ x ∈ (p.bk i).q, x.s.size ≤ 200) :
    Calls Try.prog 42 #[.pointer (some ⟨a, 0, none⟩)] w fun e w' => e = .returned (.tuple #[.int .i64 (p.frames : Nat), .int .i64 (p.memory : Nat)]) ∧ w' = w := by
  have HL : Bx _ := ⟨fun i => pbacklog_any own T a cn p i w h⟩
  have hle : ∀ i, i ≤ p.c.buckets → framesTo p.bk i ≤ 100 := by
    have : ∀ j i, i ≤ j → framesTo p.bk i ≤ framesTo p.bk j := by
      intro j
      induction j with
      | zero => intro i hi; rw [show i = 0 by omega]; exact Nat.le_refl _
      | succ j ih =>
        intro i hi
        by_cases e : i = j + 1
        · rw [e]; exact Nat.le_refl _
        · have := ih i (by omega); rw [framesTo]; omega
    exact fun i hi => Nat.le_trans (this _ i hi) hf
  have HLE : Bx _ := ⟨hle⟩
  have HBY : Bx (∀ i, i ≤ p.c.buckets → bytesTo p.bk i ≤ 200 * framesTo p.bk i) := ⟨fun i hi => bytesTo_le p.bk i (fun j hj => hby j (by omega))⟩
  obtain ⟨g, fP, vF, vO, fB, vq, h⟩ := h
  have c13 : w.cell? ⟨a, 13, none⟩ = some (.slice (some ⟨g, 0, none⟩) p.c.buckets p.c.buckets) := (h.cell 13 (by omega)).trans (by rw [h.c13])
  clear h hle hby hf
  unfold Pt.frames Pt.memory
  go_enter Try.func42, Try.ntmps42
  go_wp2_with fail
  go_loopw [4, 5, 14] (fun vn vm vi wr => ∃ i : Nat, i ≤ p.c.buckets ∧ vi = .int .i64 i ∧ vn = .int .i64 (framesTo p.bk i : Nat) ∧ vm = .int .i64 (bytesTo p.bk i + 64 * framesTo p.bk i : Nat) ∧ wr = w) (fun _ _ vi _ => p.c.buckets - (intOf vi).toNat)
  case atStart => exact ⟨0, by omega, rfl, rfl, rfl, rfl⟩
  case round =>
    obtain ⟨i, hi, rfl, rfl, rfl, rfl⟩ := hrel
    by_cases hlt : i < p.c.buckets
    · have i1 : (i : Int) < p.c.buckets := by omega
      have h1 := HLE.out (i + 1) (by omega)
      have h2 := HBY.out (i + 1) (by omega)
      have e1 : framesTo p.bk (i + 1) = framesTo p.bk i + (p.bk i).q.length := rfl
      have e2 : bytesTo p.bk (i + 1) = bytesTo p.bk i + qBytes (p.bk i).q := rfl
      rw [e1] at h1 h2
      rw [e2] at h2
      go_wp2_with fail
      refine (HL.out i hlt).mono ?_
      rintro e w1 ⟨rfl, rfl⟩
      go_wp2_with fail
      go_roundw
      case rel => exact ⟨i + 1, by omega, by go_num, by rw [e1]; go_num, by rw [e1, e2]; go_num, trivial⟩
      case measure => simp [intOf]; omega
    · obtain rfl : i = p.c.buckets := by omega
      go_wp2_with fail
      go_ret2
      exact ⟨rfl, rfl⟩

set_option maxHeartbeats 800000 in
theorem ptooMuch_any (own : Nat → Nat) (T a : Nat) (cn : Nat → Nat) (p : Pt) (w : World) (h : PcAt own w T a cn p) (hb : p.c.buckets ≤ 16) (hf : framesTo p.bk p.c.buckets ≤ 100) (hby : ∀ i, i < p.c.buckets → ∀ x ∈ (p.bk i).q, x.s.size ≤ 200) :
    Calls Try.prog 51 #[.pointer (some ⟨a, 0, none⟩)] w fun e w' => e = .returned (.bool p.tooMuch) ∧ w' = w := by
  have HL : Bx _ := ⟨pheld_any own T a cn p w h hb hf hby⟩
  obtain ⟨g, fP, vF, vO, fB, vq, h⟩ := h
  have c2 : w.cell? ⟨a, 2, none⟩ = some (.int .i64 p.c.packets) := (h.cell 2 (by omega)).trans (by rw [h.cf 2 (by omega)]; rfl)
  have c3 : w.cell? ⟨a, 3, none⟩ = some (.int .i64 p.c.memory) := (h.cell 3 (by omega)).trans (by rw [h.cf 3 (by omega)]; rfl)
  clear h hf hby
  unfold Pt.tooMuch
  generalize p.frames = m at *
  generalize p.memory = n at *
  go_enter Try.func51, Try.ntmps51
  go_wp2_with fail
  refine HL.out.mono ?_
  rintro e w1 ⟨rfl, rfl⟩
  by_cases h1 : p.c.packets < m
  · have j1 : (p.c.packets : Int) < m := by omega
    go_wp2_with fail
    go_ret
    exact ⟨by simp [h1], rfl⟩
  · have j1 : ¬ (p.c.packets : Int) < m := by omega
    go_wp2_with fail
    go_ret
    exact ⟨by simp [h1], rfl⟩

set_option maxHeartbeats 800000 in
theorem pfullest_any (own : Nat → Nat) (T a : Nat) (cn : Nat → Nat) (p : Pt) (w : World) (h : PcAt own w T a cn p) (hb : p.c.buckets ≤ 16) (hby : ∀ i, i < p.c.buckets → qBytes (p.bk i).q ≤ 100000) :
    Calls Try.prog 52 #[.pointer (some ⟨a, 0, none⟩)] w fun e w' => e = .returned (.int .i64 (p.fullest : Nat)) ∧ w' = w := by
  obtain ⟨g, fP, vF, vO, fB, vq, h⟩ := h
  have c13 : w.cell? ⟨a, 13, none⟩ = some (.slice (some ⟨g, 0, none⟩) p.c.buckets p.c.buckets) := (h.cell 13 (by omega)).trans (by rw [h.c13])
  have HB : Bx _ := ⟨fun i hi => bbytes_any own (T + 1) (T + 4 + i) g 95 (p.c.buckets * 8) (i * 8) fB (vq i) (p.bk i) w (h.bk i hi)⟩
  have HY : Bx _ := ⟨hby⟩
  clear h hby
  unfold Pt.fullest
  go_enter Try.func52, Try.ntmps52
  go_wp2_with fail
  go_loopw [3, 4, 12] (fun vn vm vi wr => ∃ i : Nat, i ≤ p.c.buckets ∧ vi = .int .i64 i ∧ vn = .int .i64 ((fullTo p.bk i).1 : Nat) ∧ vm = .int .i64 ((fullTo p.bk i).2 : Nat) ∧ wr = w) (fun _ _ vi _ => p.c.buckets - (intOf vi).toNat)
  case atStart => exact ⟨0, by omega, rfl, rfl, rfl, rfl⟩
  case round =>
    obtain ⟨i, hi, rfl, rfl, rfl, rfl⟩ := hrel
    by_cases hlt : i < p.c.buckets
    · have i1 : (i : Int) < p.c.buckets := by omega
      have h1 := HY.out i hlt
      have e1 : fullTo p.bk (i + 1) = if (fullTo p.bk i).2 < qBytes (p.bk i).q then (i, qBytes (p.bk i).q) else fullTo p.bk i := rfl
      have E1 : Bx _ := ⟨e1⟩
      clear e1
      go_wp2_with fail
      refine (HB.out i hlt).mono ?_
      rintro e w1 ⟨rfl, rfl⟩
      by_cases hq : (fullTo p.bk i).2 < qBytes (p.bk i).q
      · have j1 : ((fullTo p.bk i).2 : Int) < qBytes (p.bk i).q := by omega
        have e2 := E1.out
        rw [if_pos hq] at e2
        have E2 : Bx _ := ⟨e2⟩
        clear e2 E1
        go_wp2_with fail
        go_roundw
        case rel => exact ⟨i + 1, by omega, by go_num, by rw [E2.out], by rw [E2.out], trivial⟩
        case measure => simp [intOf]; omega
      · have j1 : ¬ ((fullTo p.bk i).2 : Int) < qBytes (p.bk i).q := by omega
        have e2 := E1.out
        rw [if_neg hq] at e2
        have E2 : Bx _ := ⟨e2⟩
        clear e2 E1
        go_wp2_with fail
        go_roundw
        case rel => exact ⟨i + 1, by omega, by go_num, by rw [E2.out], by rw [E2.out], trivial⟩
        case measure => simp [intOf]; omega
    · obtain rfl : i = p.c.buckets := by omega
      go_wp2_with fail
      go_ret
      exact ⟨rfl, rfl⟩

end Go.Proofs.Ytnkicbopebgppab

namespace Go.Proofs.Ytnkicbopebgppab
open Go.RowKit Fl

/-- What an event's happening comes to. -/
structure HapPost (own : Nat → Nat) (w w' : World) (T a : Nat) (cn : Nat → Nat) (p : Pt) : Prop where
  pt : PcAt own w' T a cn p
  fr : Fr (fun t => t = T) own own w w'

theorem PtIs.count {own : Nat → Nat} {w : World} {T a g : Nat} {fP : Nat → Value} {vF vO : Value} {fB vq : Nat → Value} {cn : Nat → Nat} {p : Pt} (h : PtIs own w T a g fP vF vO fB vq cn p) (k m : Nat) (hk : k < 7) (e : Int) (he : e = (m : Nat)) :
    PtIs own (w.setCell ⟨a, 48 + k, none⟩ (.int .i64 e)) T a g (fun i => if i = 48 + k then .int .i64 e else fP i) vF vO fB vq (fun i => if i = k then m else cn i) p := by
  refine h.set (48 + k) _ (by omega) rfl rfl rfl (fun i hi => by rw [if_neg (by omega)]) (by rw [if_neg (by omega)]) (by rw [if_neg (by omega)]) (by rw [if_neg (by omega)]) (by omega) (fun i hi => ?_)
  by_cases e1 : i = k
  · subst e1; rw [if_pos rfl, if_pos rfl, he]
  · rw [if_neg e1, if_neg (by omega)]

set_option maxHeartbeats 800000 in
theorem phappen_any (own : Nat → Nat) (T a k b : Nat) (f : Fm) (cn : Nat → Nat) (p : Pt) (w : World) (h : PcAt own w T a cn p) (hb : p.c.buckets ≤ 16) (hk1 : 1 ≤ k) (hk5 : k ≤ 5) (hcn : cn k < 4611686018427387904) :
    Calls Try.prog 54 #[.pointer (some ⟨a, 0, none⟩), .int .i64 k, .int .i64 b, f.val] w fun e w' => e = .returned (.agg #[.int .i64 p.now, .int .i64 k, .int .i64 f.id, .int .i64 b, .string f.s]) ∧ HapPost own w w' T a (fun i => if i = k then cn k + 1 else cn i) p := by
  obtain ⟨g, fP, vF, vO, fB, vq, h⟩ := h
  have c10 : w.cell? ⟨a, 10, none⟩ = some (.int .i64 p.now) := (h.cell 10 (by omega)).trans (by rw [h.c10])
  have ck : w.cell? ⟨a, 48 + k, none⟩ = some (.int .i64 (cn k)) := (h.cell (48 + k) (by omega)).trans (by rw [h.cnt k (by omega)])
  have hz := h.frozen
  have hlt := h.lt
  have hn1 : ¬ w.heap.size = a := by omega
  have H : Bx _ := ⟨h⟩
  clear h
  have i1 : (1 : Int) ≤ k := by omega
  have i2 : (k : Int) ≤ 5 := by omega
  have i3 : (k : Int) < 7 := by omega
  simp only [Fm.val]
  go_enter Try.func54, Try.ntmps54
  go_wp2_with fail
  go_region
  all_goals go_wp2_with fail
  all_goals try go_region
  all_goals go_wp2_with fail
  have h2 := H.out.count k (cn k + 1) (by omega) ((cn k : Int) + 1) (by omega)
  refine bodyPost_ret (v := .agg #[.int .i64 p.now, .int .i64 k, .int .i64 f.id, .int .i64 b, .string f.s]) (by simp [results, Try.results54, go_sem]) rfl ⟨rfl, ⟨⟨g, _, _, _, _, _, h2.below ((((Below.refl _ _).alloc (Nat.le_refl _) _).alloc (by simp) _).drew.drew) hb⟩, ?_⟩⟩
  exact ((((Fr.refl _ own w).setCell a _ _ H.out.tn.row.tag).alloc _).alloc _).drew.drew

end Go.Proofs.Ytnkicbopebgppab

namespace Go.Proofs.Ytnkicbopebgppab
open Go.RowKit Fl

set_option maxRecDepth 100000 in
set_option maxHeartbeats 3200000 in
theorem psend_any (own : Nat → Nat) (T a b : Nat) (dv : Value) (f : Fm) (fd m : Bool) (cn : Nat → Nat) (p : Pt) (w : World) (h : PcAt own w T a cn p) (hT : T ≠ 0) (hj : Junk own w) (hb : p.c.buckets ≤ 16) (hs : f.s.size ≤ 200) (hu : p.c.tau ≤ 1048576) (hnow : p.now ≤ 4611686018427387904) (hcn : ∀ i, cn i < 4000000000000) :
    Calls Try.prog 64 #[.pointer (some ⟨a, 0, none⟩), .int .i64 b, gvVal dv f fd m] w fun e w' => e = .returned (.agg #[.int .i64 p.now, .int .i64 (if m = true then 2 else 1 : Nat), .int .i64 f.id, .int .i64 b, .string f.s]) ∧
      HapPost own w w' T a (fun i => if i = (if m = true then 2 else 1) then cn i + 1 else if i = 6 then cn 6 + f.s.size else cn i) { p with busy := true, upto := p.now + f.s.size * p.c.tau } := by
  obtain ⟨g, fP, vF, vO, fB, vq, h⟩ := h
  have c7 : w.cell? ⟨a, 7, none⟩ = some (.int .i64 p.c.tau) := (h.cell 7 (by omega)).trans (by rw [h.cf 7 (by omega)]; rfl)
  have c10 : w.cell? ⟨a, 10, none⟩ = some (.int .i64 p.now) := (h.cell 10 (by omega)).trans (by rw [h.c10])
  have c11 : w.cell? ⟨a, 11, none⟩ = some (.bool p.busy) := (h.cell 11 (by omega)).trans (by rw [h.c11])
  have c12 : w.cell? ⟨a, 12, none⟩ = some (.int .i64 p.upto) := (h.cell 12 (by omega)).trans (by rw [h.c12])
  have ck : w.cell? ⟨a, 54, none⟩ = some (.int .i64 (cn 6)) := (h.cell (48 + 6) (by omega)).trans (by rw [h.cnt 6 (by omega)])
  have hz := h.frozen
  have hlt := h.lt
  have hn1 : ¬ w.heap.size = a := by omega
  have hn2 : ¬ w.heap.size + 1 = a := by omega
  have H : Bx _ := ⟨h⟩
  have hc6 := hcn 6
  clear h
  obtain ⟨n, en, hn, HN⟩ : ∃ n : Nat, (f.s.size : Int) * p.c.tau = n ∧ n ≤ 209715200 ∧ Bx (f.s.size * p.c.tau = n) := ⟨f.s.size * p.c.tau, by simp, Nat.mul_le_mul hs hu, ⟨rfl⟩⟩
  rw [HN.out]
  simp only [gvVal]
  cases m
  · go_enter Try.func64, Try.ntmps64
    go_wp2_with fail
    go_region
    go_wp2_with fail
    go_region
    go_wp2_with fail
    have h1 := H.out.set (p' := { p with busy := true }) (cn' := cn) 11 (.bool true) (by omega) rfl rfl rfl (fun i hi => by rw [if_neg (by omega)]) rfl rfl rfl (by omega) (fun i hi => by rw [if_neg (by omega)])
    have h2 := h1.set (p' := { p with busy := true, upto := p.now + n }) (cn' := cn) 12 (.int .i64 ((p.now : Int) + n)) (by omega) rfl rfl rfl (fun i hi => by rw [if_neg (by omega)]) rfl rfl (by rw [if_pos rfl]; simp) (by omega) (fun i hi => by rw [if_neg (by omega)])
    have h3 := (h2.count 6 (cn 6 + f.s.size) (by omega) ((cn 6 : Int) + f.s.size) (by omega)).below ((((Below.refl _ _).alloc (Nat.le_refl _) (Obj.cells #[dv, .int .i64 f.id, .string f.s, .int .i64 f.since, .bool fd, .bool false] 113)).alloc (by simp) (Obj.cells #[.int .i64 0, .int .i64 0, .int .i64 0, .int .i64 0, .string ⟨#[]⟩] 82)).drew.drew) hb
    have HH : Bx _ := ⟨phappen_any own T a 1 b f _ _ _ ⟨g, _, _, _, _, _, h3⟩ hb (by omega) (by omega) (by rw [if_neg (by omega)]; exact Nat.lt_trans (hcn 1) (by omega))⟩
    clear h1 h2 h3
    refine HH.out.mono ?_
    rintro e w1 ⟨rfl, hP⟩
    have hsz := hP.fr.size
    simp [World.setCell] at hsz
    have h00 : ¬ own (w.heap.size + 1) = T := by rw [hj _ (by omega)]; exact fun e => hT e.symm
    have r0 : w1.cell? ⟨w.heap.size + 1, 0, none⟩ = some (.int .i64 0) := (hP.fr.cell (b := w.heap.size + 1) _ (by simp [World.setCell]) h00).trans (by go_simp)
    have r1 : w1.cell? ⟨w.heap.size + 1, 1, none⟩ = some (.int .i64 0) := (hP.fr.cell (b := w.heap.size + 1) _ (by simp [World.setCell]) h00).trans (by go_simp)
    have r2 : w1.cell? ⟨w.heap.size + 1, 2, none⟩ = some (.int .i64 0) := (hP.fr.cell (b := w.heap.size + 1) _ (by simp [World.setCell]) h00).trans (by go_simp)
    have r3 : w1.cell? ⟨w.heap.size + 1, 3, none⟩ = some (.int .i64 0) := (hP.fr.cell (b := w.heap.size + 1) _ (by simp [World.setCell]) h00).trans (by go_simp)
    have r4 : w1.cell? ⟨w.heap.size + 1, 4, none⟩ = some (.string ⟨#[]⟩) := (hP.fr.cell (b := w.heap.size + 1) _ (by simp [World.setCell]) h00).trans (by go_simp)
    have rz : ∀ i, w1.frozen? ⟨w.heap.size + 1, i, none⟩ = false := fun i => (hP.fr.frozen (b := w.heap.size + 1) _ (by simp [World.setCell]) h00).trans (by go_simp)
    have HP : Bx _ := ⟨hP⟩
    clear hP HH c7 c10 c11 c12 ck
    go_wp2_with fail
    refine bodyPost_ret (v := .agg #[.int .i64 p.now, .int .i64 (1 : Nat), .int .i64 f.id, .int .i64 b, .string f.s]) (by simp [results, Try.results64, go_sem, r0, r1, r2, r3, r4]) rfl ⟨rfl, ⟨?_, ?_⟩⟩
    · obtain ⟨g', fP', vF', vO', fB', vq', h'⟩ := HP.out.pt
      have hcn2 : (fun i => if i = 1 then cn i + 1 else if i = 6 then cn 6 + f.s.size else cn i) = (fun i => if i = 1 then (if (1 : Nat) = 6 then cn 6 + f.s.size else cn 1) + 1 else if i = 6 then cn 6 + f.s.size else cn i) := by
        funext i
        by_cases e : i = 1
        · subst e; simp
        · simp [e]
      rw [hcn2]
      exact ⟨g', fP', vF', vO', fB', vq', h'.fr (((((((Fr.refl (fun t => t = 0) own _).setCell (w.heap.size + 1) _ _ (hj _ (by omega))).setCell (w.heap.size + 1) _ _ (hj _ (by omega))).setCell (w.heap.size + 1) _ _ (hj _ (by omega))).setCell (w.heap.size + 1) _ _ (hj _ (by omega))).setCell (w.heap.size + 1) _ _ (hj _ (by omega)))) (fun t h1 _ => by omega) hb⟩
    · exact ((((((((((((Fr.refl _ own w).setCell a _ _ H.out.tn.row.tag).setCell a _ _ H.out.tn.row.tag).setCell a _ _ H.out.tn.row.tag).alloc _).alloc _).drew.drew).trans HP.out.fr).setNew (w.heap.size + 1) _ _ (by omega)).setNew (w.heap.size + 1) _ _ (by omega)).setNew (w.heap.size + 1) _ _ (by omega)).setNew (w.heap.size + 1) _ _ (by omega)).setNew (w.heap.size + 1) _ _ (by omega)
  · go_enter Try.func64, Try.ntmps64
    go_wp2_with fail
    go_region
    go_wp2_with fail
    go_region
    go_wp2_with fail
    have h1 := H.out.set (p' := { p with busy := true }) (cn' := cn) 11 (.bool true) (by omega) rfl rfl rfl (fun i hi => by rw [if_neg (by omega)]) rfl rfl rfl (by omega) (fun i hi => by rw [if_neg (by omega)])
    have h2 := h1.set (p' := { p with busy := true, upto := p.now + n }) (cn' := cn) 12 (.int .i64 ((p.now : Int) + n)) (by omega) rfl rfl rfl (fun i hi => by rw [if_neg (by omega)]) rfl rfl (by rw [if_pos rfl]; simp) (by omega) (fun i hi => by rw [if_neg (by omega)])
    have h3 := (h2.count 6 (cn 6 + f.s.size) (by omega) ((cn 6 : Int) + f.s.size) (by omega)).below ((((Below.refl _ _).alloc (Nat.le_refl _) (Obj.cells #[dv, .int .i64 f.id, .string f.s, .int .i64 f.since, .bool fd, .bool true] 113)).alloc (by simp) (Obj.cells #[.int .i64 0, .int .i64 0, .int .i64 0, .int .i64 0, .string ⟨#[]⟩] 82)).drew.drew) hb
    have HH : Bx _ := ⟨phappen_any own T a 2 b f _ _ _ ⟨g, _, _, _, _, _, h3⟩ hb (by omega) (by omega) (by rw [if_neg (by omega)]; exact Nat.lt_trans (hcn 2) (by omega))⟩
    clear h1 h2 h3
    refine HH.out.mono ?_
    rintro e w1 ⟨rfl, hP⟩
    have hsz := hP.fr.size
    simp [World.setCell] at hsz
    have h00 : ¬ own (w.heap.size + 1) = T := by rw [hj _ (by omega)]; exact fun e => hT e.symm
    have r0 : w1.cell? ⟨w.heap.size + 1, 0, none⟩ = some (.int .i64 0) := (hP.fr.cell (b := w.heap.size + 1) _ (by simp [World.setCell]) h00).trans (by go_simp)
    have r1 : w1.cell? ⟨w.heap.size + 1, 1, none⟩ = some (.int .i64 0) := (hP.fr.cell (b := w.heap.size + 1) _ (by simp [World.setCell]) h00).trans (by go_simp)
    have r2 : w1.cell? ⟨w.heap.size + 1, 2, none⟩ = some (.int .i64 0) := (hP.fr.cell (b := w.heap.size + 1) _ (by simp [World.setCell]) h00).trans (by go_simp)
    have r3 : w1.cell? ⟨w.heap.size + 1, 3, none⟩ = some (.int .i64 0) := (hP.fr.cell (b := w.heap.size + 1) _ (by simp [World.setCell]) h00).trans (by go_simp)
    have r4 : w1.cell? ⟨w.heap.size + 1, 4, none⟩ = some (.string ⟨#[]⟩) := (hP.fr.cell (b := w.heap.size + 1) _ (by simp [World.setCell]) h00).trans (by go_simp)
    have rz : ∀ i, w1.frozen? ⟨w.heap.size + 1, i, none⟩ = false := fun i => (hP.fr.frozen (b := w.heap.size + 1) _ (by simp [World.setCell]) h00).trans (by go_simp)
    have HP : Bx _ := ⟨hP⟩
    clear hP HH c7 c10 c11 c12 ck
    go_wp2_with fail
    refine bodyPost_ret (v := .agg #[.int .i64 p.now, .int .i64 (2 : Nat), .int .i64 f.id, .int .i64 b, .string f.s]) (by simp [results, Try.results64, go_sem, r0, r1, r2, r3, r4]) rfl ⟨rfl, ⟨?_, ?_⟩⟩
    · obtain ⟨g', fP', vF', vO', fB', vq', h'⟩ := HP.out.pt
      have hcn2 : (fun i => if i = 2 then cn i + 1 else if i = 6 then cn 6 + f.s.size else cn i) = (fun i => if i = 2 then (if (2 : Nat) = 6 then cn 6 + f.s.size else cn 2) + 1 else if i = 6 then cn 6 + f.s.size else cn i) := by
        funext i
        by_cases e : i = 2
        · subst e; simp
        · simp [e]
      rw [hcn2]
      exact ⟨g', fP', vF', vO', fB', vq', h'.fr (((((((Fr.refl (fun t => t = 0) own _).setCell (w.heap.size + 1) _ _ (hj _ (by omega))).setCell (w.heap.size + 1) _ _ (hj _ (by omega))).setCell (w.heap.size + 1) _ _ (hj _ (by omega))).setCell (w.heap.size + 1) _ _ (hj _ (by omega))).setCell (w.heap.size + 1) _ _ (hj _ (by omega)))) (fun t h1 _ => by omega) hb⟩
    · exact ((((((((((((Fr.refl _ own w).setCell a _ _ H.out.tn.row.tag).setCell a _ _ H.out.tn.row.tag).setCell a _ _ H.out.tn.row.tag).alloc _).alloc _).drew.drew).trans HP.out.fr).setNew (w.heap.size + 1) _ _ (by omega)).setNew (w.heap.size + 1) _ _ (by omega)).setNew (w.heap.size + 1) _ _ (by omega)).setNew (w.heap.size + 1) _ _ (by omega)).setNew (w.heap.size + 1) _ _ (by omega)

end Go.Proofs.Ytnkicbopebgppab

namespace Go.Proofs.Ytnkicbopebgppab
open Go.RowKit Fl

theorem flowOf_size (s : ByteArray) : (flowOf s).size ≤ 100 := by
  unfold flowOf
  split
  · unfold text4
    have h1 : (if be16 s 6 % 16384 = 0 then portsOf (s.extract (byteAt s 0 % 16 * 4) (be16 s 2)) (byteAt s 9) else ⟨#[]⟩).size ≤ 4 := by
      split
      · exact portsOf_size _ _
      · exact Nat.zero_le _
    have h2 : (⟨#[4]⟩ : ByteArray).size = 1 := rfl
    have h3 : (s.extract 12 20).size ≤ 8 := by rw [ByteArray.size_extract]; omega
    have h4 : (s.extract 9 10).size ≤ 1 := by rw [ByteArray.size_extract]; omega
    rw [ByteArray.size_append, ByteArray.size_append, ByteArray.size_append]
    omega
  · split
    · rename_i t ht
      unfold flow6 at ht
      split at ht
      · split at ht
        · simp at ht
        · rename_i rest next whole _
          injection ht with ht
          rw [← ht]
          have h1 : (if whole then portsOf rest next else ⟨#[]⟩).size ≤ 4 := by
            split
            · exact portsOf_size _ _
            · exact Nat.zero_le _
          have h2 : (⟨#[6]⟩ : ByteArray).size = 1 := rfl
          have h3 : (s.extract 8 40).size ≤ 32 := by rw [ByteArray.size_extract]; omega
          have h4 : (⟨#[UInt8.ofNat next]⟩ : ByteArray).size = 1 := rfl
          rw [ByteArray.size_append, ByteArray.size_append, ByteArray.size_append]
          omega
      · simp at ht
    · rw [ByteArray.size_append, padded_size]
      have h2 : (⟨#[0]⟩ : ByteArray).size = 1 := rfl
      omega

set_option maxRecDepth 100000 in
set_option maxHeartbeats 1600000 in
theorem pplace_any (own : Nat → Nat) (T a : Nat) (cn : Nat → Nat) (p : Pt) (s : ByteArray) (w : World) (h : PcAt own w T a cn p) (hb1 : 1 ≤ p.c.buckets) (hb : p.c.buckets ≤ 16) (hk : p.c.key.size = 16) (hs : s.size ≤ 200) (m : Nat) (hm : Bx (place p.c s = m)) :
    Calls Try.prog 45 #[.pointer (some ⟨a, 0, none⟩), .string s] w fun e w' => e = .returned (.int .i64 m) ∧ Below w.heap.size w w' := by
  obtain ⟨g, fP, vF, vO, fB, vq, h⟩ := h
  have c0 : w.cell? ⟨a, 0, none⟩ = some (.int .i64 p.c.buckets) := (h.cell 0 (by omega)).trans (by rw [h.cf 0 (by omega)]; rfl)
  have c9 : w.cell? ⟨a, 9, none⟩ = some (.string p.c.key) := (h.cell 9 (by omega)).trans (by rw [h.cf 9 (by omega)]; rfl)
  have hlt := h.lt
  clear h
  obtain ⟨t, Ht⟩ : ∃ t, Bx (flowOf s = t) := ⟨_, ⟨rfl⟩⟩
  obtain ⟨X, HX⟩ : ∃ X, Bx (sipHash p.c.key t = X) := ⟨_, ⟨rfl⟩⟩
  have hX : X < 18446744073709551616 := by rw [← HX.out]; exact sipHash_lt _ _
  obtain ⟨X1, hX1, eX1, HX1⟩ : ∃ X1 : Nat, X1 < 4294967296 ∧ (X : Int) / 4294967296 = X1 ∧ Bx (X / 4294967296 = X1) := ⟨X / 4294967296, by omega, by omega, ⟨rfl⟩⟩
  have hmul : X1 * p.c.buckets ≤ 4294967295 * 16 := Nat.mul_le_mul (by omega) hb
  obtain ⟨Y, hY, eY, HY⟩ : ∃ Y : Nat, Y ≤ 68719476720 ∧ (X1 : Int) * p.c.buckets = Y ∧ Bx (X1 * p.c.buckets = Y) := ⟨X1 * p.c.buckets, by omega, by simp, ⟨rfl⟩⟩
  have em : (Y : Int) / 4294967296 = m := by
    have := hm.out
    unfold place at this
    rw [Ht.out, HX.out, HX1.out, HY.out] at this
    omega
  have HF : Bx _ := ⟨flowOf_any s t w (by omega) Ht.out⟩
  clear hmul
  go_enter Try.func45, Try.ntmps45
  go_wp2_with fail
  refine HF.out.mono ?_
  rintro e w1 ⟨rfl, hb1⟩
  have d0 : w1.cell? ⟨a, 0, none⟩ = some (.int .i64 p.c.buckets) := (hb1.cell (p := ⟨a, 0, none⟩) hlt).trans c0
  have d9 : w1.cell? ⟨a, 9, none⟩ = some (.string p.c.key) := (hb1.cell (p := ⟨a, 9, none⟩) hlt).trans c9
  have HB1 : Bx _ := ⟨hb1⟩
  clear hb1
  go_wp2_with fail
  refine (hash_any p.c.key t X _ hk (by have := flowOf_size s; rw [Ht.out] at this; omega) HX).mono ?_
  rintro e w2 ⟨rfl, hb2⟩
  have hlt1 : a < w1.heap.size := Nat.lt_of_lt_of_le hlt HB1.out.size
  have e0 : w2.cell? ⟨a, 0, none⟩ = some (.int .i64 p.c.buckets) := (hb2.cell (p := ⟨a, 0, none⟩) hlt1).trans d0
  have HB2 : Bx _ := ⟨hb2⟩
  clear hb2 d0 d9 c0 c9
  go_wp2_with fail
  go_ret
  exact ⟨rfl, HB1.out.trans (HB2.out.mono HB1.out.size)⟩

end Go.Proofs.Ytnkicbopebgppab

namespace Go.Proofs.Ytnkicbopebgppab
open Go.RowKit Fl

theorem infoEvent : (Try.prog.info? 82).map (fun i => (i.zero, i.size, i.bytes)) = some (some (.agg #[.int .i64 0, .int .i64 0, .int .i64 0, .int .i64 0, .string ⟨#[]⟩]), 5, 48) := by kernel_rfl

theorem evCells_length (l : List Ev) : (evCells l).length = l.length * 5 := by
  induction l with
  | nil => rfl
  | cons e l ih =>
    show (e.cells ++ evCells l).length = _
    rw [List.length_append, ih, List.length_cons]
    show 5 + l.length * 5 = _
    omega

theorem evCells_append (l m : List Ev) : evCells (l ++ m) = evCells l ++ evCells m := by simp [evCells]
theorem evCells_one (e : Ev) : evCells [e] = e.cells := by simp [evCells]

theorem evG_cells (e : Ev) : ∀ j u, e.cells[j]? = some u → evG (j % 5) u := by
  intro j u hj
  match j, hj with
  | 0, hj => simp [Ev.cells] at hj; subst hj; exact ⟨_, rfl⟩
  | 1, hj => simp [Ev.cells] at hj; subst hj; exact ⟨_, rfl⟩
  | 2, hj => simp [Ev.cells] at hj; subst hj; exact ⟨_, rfl⟩
  | 3, hj => simp [Ev.cells] at hj; subst hj; exact ⟨_, rfl⟩
  | 4, hj => simp [Ev.cells] at hj; subst hj; exact ⟨_, rfl⟩
  | n + 5, hj => simp [Ev.cells] at hj

theorem evG_zero : ∀ j u, (Value.agg #[.int .i64 0, .int .i64 0, .int .i64 0, .int .i64 0, .string ⟨#[]⟩]).cells[j]? = some u → evG j u := by
  intro j u hj
  match j, hj with
  | 0, hj => simp [Value.cells] at hj; subst hj; exact ⟨_, rfl⟩
  | 1, hj => simp [Value.cells] at hj; subst hj; exact ⟨_, rfl⟩
  | 2, hj => simp [Value.cells] at hj; subst hj; exact ⟨_, rfl⟩
  | 3, hj => simp [Value.cells] at hj; subst hj; exact ⟨_, rfl⟩
  | 4, hj => simp [Value.cells] at hj; subst hj; exact ⟨_, rfl⟩
  | n + 5, hj => simp [Value.cells] at hj

theorem ev_one (e : Ev) : ∀ u ∈ e.cells, u.oneCell' = true := by
  intro u hu
  simp only [Ev.cells, List.mem_cons, List.not_mem_nil, or_false] at hu
  rcases hu with rfl | rfl | rfl | rfl | rfl <;> rfl

theorem ev_at {w : World} {g : Nat} (e : Ev) (h0 : w.cell? ⟨g, 0, none⟩ = some (.int .i64 e.time)) (h1 : w.cell? ⟨g, 1, none⟩ = some (.int .i64 e.kind)) (h2 : w.cell? ⟨g, 2, none⟩ = some (.int .i64 e.id)) (h3 : w.cell? ⟨g, 3, none⟩ = some (.int .i64 e.b)) (h4 : w.cell? ⟨g, 4, none⟩ = some (.string e.s)) :
    ∀ j u, e.cells[j]? = some u → w.cell? ((⟨g, 0, none⟩ : Addr).add j) = some u := by
  intro j u hj
  rw [Addr.add_lit]
  match j, hj with
  | 0, hj => simp [Ev.cells] at hj; subst hj; exact h0
  | 1, hj => simp [Ev.cells] at hj; subst hj; exact h1
  | 2, hj => simp [Ev.cells] at hj; subst hj; exact h2
  | 3, hj => simp [Ev.cells] at hj; subst hj; exact h3
  | 4, hj => simp [Ev.cells] at hj; subst hj; exact h4
  | n + 5, hj => simp [Ev.cells] at hj

/-- An event is laid at the end of a list. -/
theorem wpList_append_ev (w : World) {ops : Array Oper} {rest : List Oper} {o : Oper} {a : Act} {Q : Exit → Act → World → Prop} (hgd : o.guard = none) (s x : Operand)
    (hop : o.op = Op.call { callee := Callee.builtin Builtin.append, args := #[s, x], argTypes := #[48, 48] })
    (own : Nat → Nat) (te : Nat) (v : Value) (E : List Ev) (hs : a.eval s = v) (hsl : Sl evG own w te 5 v E.length (evCells E)) (g c : Nat) (ev : Ev) (hx : a.eval x = .slice (some ⟨g, 0, none⟩) 1 c)
    (h0 : w.cell? ⟨g, 0, none⟩ = some (.int .i64 ev.time)) (h1 : w.cell? ⟨g, 1, none⟩ = some (.int .i64 ev.kind)) (h2 : w.cell? ⟨g, 2, none⟩ = some (.int .i64 ev.id)) (h3 : w.cell? ⟨g, 3, none⟩ = some (.int .i64 ev.b)) (h4 : w.cell? ⟨g, 4, none⟩ = some (.string ev.s))
    (hE : E.length ≤ 1000000)
    (h : ∀ v' w' own', Sl evG own' w' te 5 v' (E ++ [ev]).length (evCells (E ++ [ev])) → Fr (fun x => x = te) own own' w w' → (∃ b k, v' = .slice (some b) (E.length + 1) k) → wpList Try.prog ops Q rest (a.put o.dst v') w') : wpList Try.prog ops Q (o :: rest) a w := by
  obtain ⟨i0, hi, hz0, hz1, hz2⟩ := info_parts infoEvent
  refine wpList_append_sl _ hgd _ _ 48 hop 82 i0 _ 5 48 Try.underlying48 hi hz0 hz1 hz2 rfl (by decide) evG own te v E.length (evCells E) hs hsl ⟨g, 0, none⟩ 1 c ev.cells hx rfl (ev_at ev h0 h1 h2 h3 h4) (ev_one ev) (evG_cells ev) evG_zero (by decide) (by unfold maxLen; omega) (by omega) ?_
  intro v' w' own' hsl' hfr hv
  exact h v' w' own' (by rw [evCells_append, evCells_one, List.length_append]; exact hsl') hfr hv

/-- What a call that tells events comes to. -/
structure EvPost (own : Nat → Nat) (w w' : World) (T te a : Nat) (E : List Ev) (p p' : Pt) (v' : Value) : Prop where
  ex : ∃ own' l, p'.done = p.done ++ l ∧ PtAt own' w' T a p' ∧ Sl evG own' w' te 5 v' (E ++ l).length (evCells (E ++ l)) ∧ (E ++ l = [] → v' = .slice none 0 0) ∧ Fr (PTag T te) own own' w w'

theorem Pt.counts_happens (p : Pt) (k b : Nat) (f : Fm) (hk1 : 1 ≤ k) (hk5 : k ≤ 5) : ∀ i, (p.happens k b [f]).counts i = if i = k then p.counts k + 1 else if i = 6 then p.counts 6 + (if k = 1 ∨ k = 2 then f.s.size else 0) else p.counts i := by
  intro i
  have hd : (p.happens k b [f]).done = p.done ++ [⟨p.now, k, f.id, b, f.s⟩] := rfl
  have hid : (p.happens k b [f]).ids = p.ids := rfl
  unfold Pt.counts
  rw [hd, hid, outOf_append, countOf_append]
  have h1 : outOf [⟨p.now, k, f.id, b, f.s⟩] = if k = 1 ∨ k = 2 then f.s.size else 0 := by simp [outOf]
  have h2 : ∀ j, countOf [⟨p.now, k, f.id, b, f.s⟩] j = if k = j then 1 else 0 := by
    intro j
    by_cases e : k = j
    · simp [countOf, e]
    · simp [countOf, e]
  rw [h1, h2]
  by_cases e0 : i = 0
  · subst e0; simp [show ¬ 0 = k by omega]
  · rw [if_neg e0, if_neg e0]
    by_cases e6 : i = 6
    · subst e6; simp [show ¬ 6 = k by omega]
    · rw [if_neg e6, if_neg e6]
      by_cases ek : i = k
      · subst ek; rw [if_pos rfl, if_pos rfl, if_neg e0, if_neg e6]
      · rw [if_neg ek, if_neg (fun e => ek e.symm), if_neg e6, Nat.add_zero]

end Go.Proofs.Ytnkicbopebgppab

namespace Go.Proofs.Ytnkicbopebgppab
open Go.RowKit Fl

theorem Pt.ok.len {p : Pt} (h : p.ok) (i : Nat) (hi : i < p.c.buckets) : (p.bk i).q.length ≤ 65 := Nat.le_trans (framesTo_le p.bk _ i hi) h.fr
theorem Pt.ok.by {p : Pt} (h : p.ok) (i : Nat) : ∀ x ∈ (p.bk i).q, x.s.size ≤ 200 := fun x hx => Nat.le_trans ((h.bk i).one x hx).2 h.c.l2
theorem Pt.ok.qb {p : Pt} (h : p.ok) (i : Nat) (hi : i < p.c.buckets) : qBytes (p.bk i).q ≤ 100000 := by
  have h1 := qBytes_le _ (h.by i)
  have h2 := h.len i hi
  omega

theorem Pt.ok.counts_lt {p : Pt} (h : p.ok) (hi : p.ids ≤ 16777216) : ∀ i, p.counts i < 3400000000 := by
  intro i
  have h1 := h.dn
  have h2 := outOf_le p.done (fun e he => (h.ev e he).2.2)
  have h3 := countOf_le p.done i
  unfold Pt.counts
  split
  · omega
  · split <;> omega

/-- The tags of a port are none of the others. -/
structure Tags (T te : Nat) : Prop where
  big : 100 ≤ T
  te2 : 2 ≤ te
  out : te < T ∨ T + 20 ≤ te

theorem pt_le (T te : Nat) : (∀ t, t = T → PTag T te t) := fun t e => .inl (by omega)

set_option maxRecDepth 100000 in
set_option maxHeartbeats 3200000 in
theorem pshed_any (own : Nat → Nat) (T te a : Nat) (p : Pt) (E : List Ev) (v : Value) (w : World) (h : PtAt own w T a p) (ht : Tags T te) (hj : Junk own w) (hok : p.ok) (hid : p.ids ≤ 16777216) (hs : Sl evG own w te 5 v E.length (evCells E)) (hv : E = [] → v = .slice none 0 0) (hE : E.length + p.frames ≤ 1000)
    (p' : Pt) (hp' : Bx (p.shed = p')) :
    Calls Try.prog 35 #[.pointer (some ⟨a, 0, none⟩), v] w fun e w' => ∃ v', e = .returned v' ∧ EvPost own w w' T te a E p p' v' := by
  have H : Bx (∃ own1 l p1 v1, v = v1 ∧ p1.done = p.done ++ l ∧ PtAt own1 w T a p1 ∧ Sl evG own1 w te 5 v1 (E ++ l).length (evCells (E ++ l)) ∧ (E ++ l = [] → v1 = .slice none 0 0) ∧ Fr (PTag T te) own own1 w w ∧ p1.ok ∧ p1.ids ≤ 16777216 ∧ Pt.sheds p.frames p1 = p' ∧ (E ++ l).length + p1.frames ≤ 1000 ∧ p1.frames ≤ p.frames) :=
    ⟨own, [], p, v, rfl, by simp, h, by simpa using hs, by simpa using hv, Fr.refl _ _ _, hok, hid, hp'.out, by simpa using hE, Nat.le_refl _⟩
  clear h hs hv hp'
  go_enter Try.func35, Try.ntmps35
  go_wp2_with fail
  go_loopg [1] p.frames (fun k ve wr => ∃ own1 l p1 v1, ve = v1 ∧ p1.done = p.done ++ l ∧ PtAt own1 wr T a p1 ∧ Sl evG own1 wr te 5 v1 (E ++ l).length (evCells (E ++ l)) ∧ (E ++ l = [] → v1 = .slice none 0 0) ∧ Fr (PTag T te) own own1 w wr ∧ p1.ok ∧ p1.ids ≤ 16777216 ∧ Pt.sheds k p1 = p' ∧ (E ++ l).length + p1.frames ≤ 1000 ∧ p1.frames ≤ k)
  case atStart => exact H.out
  case round =>
    obtain ⟨own1, l, p1, v1, rfl, hd, hP, hS, hN, hF, hok1, hid1, hsh, hE1, hk1⟩ := hrel
    have HT : Bx _ := ⟨ptooMuch_any own1 T a _ p1 wr hP hok1.c.b2 (Nat.le_trans hok1.fr (by omega)) (fun i _ => hok1.by i)⟩
    cases htm : p1.tooMuch
    · have e1 : p1 = p' := by
        rw [← hsh]
        cases gk with
        | zero => rfl
        | succ k => rw [Pt.sheds, if_neg (by simp [htm])]
      subst e1
      have HR : Bx (EvPost own w wr T te a E p p1 u1) := ⟨⟨own1, l, hd, hP, hS, hN, hF⟩⟩
      rw [htm] at HT
      clear hP hS hF hok1 hsh hN
      go_wp2_with fail
      refine HT.out.mono ?_
      rintro e w1 ⟨rfl, rfl⟩
      go_wp2_with fail
      go_ret
      exact ⟨u1, rfl, HR.out⟩
    · have hpos := p1.frames_pos hok1 htm
      obtain ⟨L, HL⟩ : ∃ L, Bx (E ++ l = L) := ⟨_, ⟨rfl⟩⟩
      rw [HL.out] at hS hE1
      obtain ⟨hok2, hf2, hdr⟩ := p1.shedOnce_ok hok1 hpos
      obtain ⟨hb, hq⟩ := p1.fullest_is hok1 hpos
      obtain ⟨k', rfl⟩ : ∃ k', gk = k' + 1 := ⟨gk - 1, by omega⟩
      rw [Pt.sheds, if_pos htm] at hsh
      have HU : Bx _ := ⟨pfullest_any own1 T a _ p1 wr hP hok1.c.b2 (fun i hi => hok1.qb i hi)⟩
      rw [htm] at HT
      obtain ⟨g, fP, vF, vO, fB, vq, h1⟩ := hP
      have c13 : wr.cell? ⟨a, 13, none⟩ = some (.slice (some ⟨g, 0, none⟩) p1.c.buckets p1.c.buckets) := (h1.cell 13 (by omega)).trans (by rw [h1.c13])
      obtain ⟨i, Hi⟩ : ∃ i, Bx (p1.fullest = i) := ⟨_, ⟨rfl⟩⟩
      rw [Hi.out] at hb hq hdr HU
      obtain ⟨fm, k1, hk⟩ : ∃ fm k1, (p1.bk i).drop = (fm, true, k1) := ⟨(p1.bk i).drop.1, (p1.bk i).drop.2.2, by rw [← hdr]⟩
      have i1 : (i : Int) < p1.c.buckets := by omega
      have hb16 := hok1.c.b2
      have hcl := hok1.counts_lt hid1 3
      have e2 : p1.shedOnce = (p1.put i k1).happens 3 i [fm] := by unfold Pt.shedOnce; rw [Hi.out, hk]
      rw [e2] at hok2 hf2 hsh
      have H1 : Bx (PtIs own1 wr T a g fP vF vO fB vq p1.counts p1 ∧ Sl evG own1 wr te 5 u1 L.length (evCells L) ∧ Fr (PTag T te) own own1 w wr ∧ Junk own1 wr ∧ p1.done = p.done ++ l ∧ (p1.bk i).drop = (fm, true, k1)) := ⟨h1, hS, hF, hF.junk hj, hd, hk⟩
      have HOK : Bx (((p1.put i k1).happens 3 i [fm]).ok ∧ Pt.sheds k' ((p1.put i k1).happens 3 i [fm]) = p' ∧ ((p1.put i k1).happens 3 i [fm]).frames + 1 = p1.frames) := ⟨hok2, hsh, hf2⟩
      have hlt := h1.lt
      clear h1 hS hF hok1 hsh hN hd hok2 hf2 e2 hk hdr
      go_wp2_with fail
      refine HT.out.mono ?_
      rintro e w1 ⟨rfl, rfl⟩
      go_wp2_with fail
      refine HU.out.mono ?_
      rintro e w2 ⟨rfl, rfl⟩
      go_wp2_with fail
      refine (bdrop_any own1 (T + 1) (T + 4 + i) g 95 (p1.c.buckets * 8) (i * 8) fB (vq i) (p1.bk i) k1 fm true _ (H1.out.1.bk i hb) H1.out.2.2.2.1 (by omega) (by omega) ⟨H1.out.2.2.2.2.2⟩).mono ?_
      rintro e w3 ⟨rfl, hP3⟩
      obtain ⟨fB3, v3, h3, ho3, hf3⟩ := hP3.ex
      have hA3 := H1.out.1.put i hb hb16 h3 ho3 hf3 (fun t h1 h2 h3 h4 e => e.elim h3 h4)
      have hS3 := H1.out.2.1.fr hf3 (fun e => by have := ht.out; omega)
      have hF3 : Fr (PTag T te) own own1 w w3 := H1.out.2.2.1.trans (hf3.mono (fun t e => .inl (by omega)))
      have hJ3 : Junk own1 w3 := hf3.junk H1.out.2.2.2.1
      have hlt3 : a < w3.heap.size := hA3.lt
      have H3 : Bx (PtIs own1 w3 T a g fP vF vO fB3 (fun j => if j = i then v3 else vq j) p1.counts (p1.put i k1) ∧ Sl evG own1 w3 te 5 u1 L.length (evCells L) ∧ Fr (PTag T te) own own1 w w3 ∧ Junk own1 w3 ∧ p1.done = p.done ++ l) := ⟨hA3, hS3, hF3, hJ3, H1.out.2.2.2.2.1⟩
      clear hP3 h3 ho3 hf3 hA3 hS3 hF3 hJ3 H1 HU HT c13
      simp only [Fm.val]
      go_wp2_with fail
      have hJ3a : Junk own1 (w3.alloc (Obj.cells #[.int .i64 fm.id, .string fm.s, .int .i64 fm.since] 98)) := (((Fr.refl (fun _ => False) own1 w3).alloc _).junk H3.out.2.2.2.1)
      have hh := phappen_any own1 T a 3 i fm p1.counts (p1.put i k1) _ ⟨g, _, _, _, _, _, H3.out.1.below ((Below.refl _ _).alloc (Nat.le_refl _) (Obj.cells #[.int .i64 fm.id, .string fm.s, .int .i64 fm.since] 98)) hb16⟩ hb16 (by omega) (by omega) (by omega)
      rw [show (p1.put i k1).now = p1.now from rfl] at hh
      have HH : Bx _ := ⟨hh⟩
      refine HH.out.mono ?_
      rintro e w4 ⟨rfl, hP4⟩
      have hS4 := (H3.out.2.1.below ((Below.refl _ _).alloc (Nat.le_refl _) (Obj.cells #[.int .i64 fm.id, .string fm.s, .int .i64 fm.since] 98))).fr hP4.fr (fun e => by have := ht.out; omega)
      have hF4 : Fr (PTag T te) own own1 w w4 := (H3.out.2.2.1.alloc _).trans (hP4.fr.mono (fun t e => .inl (by omega)))
      have HPt : Bx _ := ⟨hP4.pt⟩
      have H4 : Bx (Sl evG own1 w4 te 5 u1 L.length (evCells L) ∧ Fr (PTag T te) own own1 w w4 ∧ Junk own1 w4 ∧ p1.done = p.done ++ l) := ⟨hS4, hF4, hP4.fr.junk hJ3a, H3.out.2.2.2.2⟩
      clear hP4 hS4 hF4 hJ3a H3 HH hh
      go_wp2_with (at_builtin; refine wpList_append_ev _ rfl _ _ rfl own1 te u1 L rfl (H4.out.1.below (((Below.refl _ _).alloc (Nat.le_refl _) _).alloc (by simp) _)) _ _ ⟨p1.now, 3, fm.id, i, fm.s⟩ rfl (by go_simp) (by go_simp) (by go_simp) (by go_simp) (by go_simp) (by omega) ?_)
      intro v5 w5 own5 hS5 hF5 db dk hv5
      have hF5' : Fr (PTag T te) own own5 w w5 := ((H4.out.2.1.alloc _).alloc _).trans (hF5.mono (fun t e => .inr (.inr e)))
      have hA5 : PcAt own5 w5 T a (fun i => if i = 3 then p1.counts 3 + 1 else p1.counts i) (p1.put i k1) := by
        obtain ⟨g, fP, vF, vO, fB, vq, h'⟩ := HPt.out
        exact ⟨g, fP, vF, vO, fB, vq, (h'.below (((Below.refl _ _).alloc (Nat.le_refl _) _).alloc (by simp) _) hb16).fr hF5 (fun t h1 h2 e => by have := ht.out; omega) hb16⟩
      have H5 : Bx (PcAt own5 w5 T a (fun i => if i = 3 then p1.counts 3 + 1 else p1.counts i) (p1.put i k1) ∧ Sl evG own5 w5 te 5 v5 (L ++ [(⟨p1.now, 3, fm.id, i, fm.s⟩ : Ev)]).length (evCells (L ++ [⟨p1.now, 3, fm.id, i, fm.s⟩])) ∧ Fr (PTag T te) own own5 w w5) := ⟨hA5, by simpa using hS5, hF5'⟩
      clear hA5 hS5 hF5 hF5'
      go_wp2_with fail
      go_roundg k'
      case rel =>
        refine ⟨own5, l ++ [⟨p1.now, 3, fm.id, i, fm.s⟩], (p1.put i k1).happens 3 i [fm], v5, rfl, ?_, ?_, ?_, ?_, H5.out.2.2, HOK.out.1, hid1, HOK.out.2.1, ?_, ?_⟩
        · show p1.done ++ [_] = _
          rw [H4.out.2.2.2, List.append_assoc]
          rfl
        · obtain ⟨g, fP, vF, vO, fB, vq, h'⟩ := H5.out.1
          refine ⟨g, fP, vF, vO, fB, vq, ⟨h'.tn, h'.cf, h'.c10, h'.c11, h'.c12, h'.c13, fun j hj => ?_, h'.bk⟩⟩
          rw [h'.cnt j hj, Pt.counts_happens _ 3 i fm (by omega) (by omega) j]
          show Value.int .i64 ((if j = 3 then p1.counts 3 + 1 else p1.counts j : Nat) : Int) = .int .i64 ((if j = 3 then p1.counts 3 + 1 else if j = 6 then p1.counts 6 + 0 else p1.counts j : Nat) : Int)
          by_cases e3 : j = 3
          · rw [if_pos e3, if_pos e3]
          · rw [if_neg e3, if_neg e3]
            by_cases e6 : j = 6
            · rw [if_pos e6, e6]; rfl
            · rw [if_neg e6]
        · rw [← List.append_assoc, HL.out]; exact H5.out.2.1
        · intro e; simp at e
        · rw [← List.append_assoc, HL.out]
          have := HOK.out.2.2
          simp only [List.length_append, List.length_cons, List.length_nil]
          omega
        · have := HOK.out.2.2
          omega
      case measure => omega

end Go.Proofs.Ytnkicbopebgppab

namespace Go.Proofs.Ytnkicbopebgppab
open Go.RowKit Fl

/-- A configuration as the caller has it. -/
structure Cg where
  buckets : Int
  quantum : Int
  packets : Int
  memory : Int
  length : Int
  target : Int
  interval : Int
  tau : Int
  ecn : Bool
  key : ByteArray

def Cg.val (c : Cg) : Value := .agg #[.int .i64 c.buckets, .int .i64 c.quantum, .int .i64 c.packets, .int .i64 c.memory, .int .i64 c.length, .int .i64 c.target, .int .i64 c.interval, .int .i64 c.tau, .bool c.ecn, .string c.key]

def Cg.sizes (c : Cg) : Prop := 1 ≤ c.buckets ∧ c.buckets ≤ 16 ∧ 1 ≤ c.quantum ∧ c.quantum ≤ 1000 ∧ 1 ≤ c.packets ∧ c.packets ≤ 64 ∧ 20 ≤ c.length ∧ c.length ≤ 200 ∧ c.length + 64 ≤ c.memory ∧ c.memory ≤ 65536
def Cg.times (c : Cg) : Prop := 1 ≤ c.target ∧ c.target ≤ c.interval ∧ c.interval ≤ 1099511627776 ∧ 1 ≤ c.tau ∧ c.tau ≤ 1048576
instance (c : Cg) : Decidable c.sizes := by unfold Cg.sizes; infer_instance
instance (c : Cg) : Decidable c.times := by unfold Cg.times; infer_instance
def Cg.sound (c : Cg) : Prop := c.sizes ∧ c.times ∧ c.key.size = 16
instance (c : Cg) : Decidable c.sound := by unfold Cg.sound; infer_instance

theorem ret_bool {a b : Bool} (h : a = b) : Ending.returned (.bool a) = .returned (.bool b) := by rw [h]

set_option maxRecDepth 100000 in
set_option maxHeartbeats 3200000 in
theorem soundSizes_any (c : Cg) (w : World) (r : Bool) (hr : Bx (decide c.sizes = r)) :
    Calls Try.prog 43 #[c.val] w fun e w' => e = .returned (.bool r) ∧ Below w.heap.size w w' := by
  obtain ⟨cb, cq, cp, cm, cl, ct, ci, cu, ce, ck⟩ := c
  have hr' := hr.out
  simp only [Cg.sizes] at hr'
  have HR : Bx _ := ⟨hr'⟩
  clear hr hr'
  simp only [Cg.val]
  go_enter Try.func43, Try.ntmps43
  go_wp2
  all_goals go_ret
  all_goals refine ⟨ret_bool ?_, (Below.refl _ _).alloc (Nat.le_refl _) _⟩
  all_goals rw [← HR.out]
  all_goals first
    | exact (decide_eq_false (by omega)).symm
    | exact decide_eq_decide.2 (by omega)

set_option maxRecDepth 100000 in
set_option maxHeartbeats 3200000 in
theorem soundTimes_any (c : Cg) (w : World) (r : Bool) (hr : Bx (decide c.times = r)) :
    Calls Try.prog 44 #[c.val] w fun e w' => e = .returned (.bool r) ∧ Below w.heap.size w w' := by
  obtain ⟨cb, cq, cp, cm, cl, ct, ci, cu, ce, ck⟩ := c
  have hr' := hr.out
  simp only [Cg.times] at hr'
  have HR : Bx _ := ⟨hr'⟩
  clear hr hr'
  simp only [Cg.val]
  go_enter Try.func44, Try.ntmps44
  go_wp2
  all_goals go_ret
  all_goals refine ⟨ret_bool ?_, (Below.refl _ _).alloc (Nat.le_refl _) _⟩
  all_goals rw [← HR.out]
  all_goals first
    | exact (decide_eq_false (by omega)).symm
    | exact decide_eq_decide.2 (by omega)

set_option maxRecDepth 100000 in
set_option maxHeartbeats 3200000 in
theorem sound_any (c : Cg) (w : World) (r : Bool) (hr : Bx (decide c.sound = r)) :
    Calls Try.prog 24 #[c.val] w fun e w' => e = .returned (.bool r) ∧ Below w.heap.size w w' := by
  have HS : Bx _ := ⟨soundSizes_any c⟩
  have HT : Bx _ := ⟨soundTimes_any c⟩
  have hr' := hr.out
  simp only [Cg.sound] at hr'
  have HR : Bx _ := ⟨hr'⟩
  obtain ⟨r1, H1⟩ : ∃ r1, Bx (decide c.sizes = r1) := ⟨_, ⟨rfl⟩⟩
  obtain ⟨r2, H2⟩ : ∃ r2, Bx (decide c.times = r2) := ⟨_, ⟨rfl⟩⟩
  have HS2 : Bx _ := ⟨fun w => HS.out w r1 H1⟩
  have HT2 : Bx _ := ⟨fun w => HT.out w r2 H2⟩
  clear hr hr' HS HT
  simp only [Cg.val] at *
  go_enter Try.func24, Try.ntmps24
  go_wp2_with fail
  refine (HS2.out _).mono ?_
  rintro e w1 ⟨rfl, hb1⟩
  have p0 : w1.cell? ⟨w.heap.size, 0, none⟩ = some (.int .i64 c.buckets) := (hb1.cell (p := ⟨w.heap.size, 0, none⟩) (by simp)).trans (by go_simp)
  have p1 : w1.cell? ⟨w.heap.size, 1, none⟩ = some (.int .i64 c.quantum) := (hb1.cell (p := ⟨w.heap.size, 1, none⟩) (by simp)).trans (by go_simp)
  have p2 : w1.cell? ⟨w.heap.size, 2, none⟩ = some (.int .i64 c.packets) := (hb1.cell (p := ⟨w.heap.size, 2, none⟩) (by simp)).trans (by go_simp)
  have p3 : w1.cell? ⟨w.heap.size, 3, none⟩ = some (.int .i64 c.memory) := (hb1.cell (p := ⟨w.heap.size, 3, none⟩) (by simp)).trans (by go_simp)
  have p4 : w1.cell? ⟨w.heap.size, 4, none⟩ = some (.int .i64 c.length) := (hb1.cell (p := ⟨w.heap.size, 4, none⟩) (by simp)).trans (by go_simp)
  have p5 : w1.cell? ⟨w.heap.size, 5, none⟩ = some (.int .i64 c.target) := (hb1.cell (p := ⟨w.heap.size, 5, none⟩) (by simp)).trans (by go_simp)
  have p6 : w1.cell? ⟨w.heap.size, 6, none⟩ = some (.int .i64 c.interval) := (hb1.cell (p := ⟨w.heap.size, 6, none⟩) (by simp)).trans (by go_simp)
  have p7 : w1.cell? ⟨w.heap.size, 7, none⟩ = some (.int .i64 c.tau) := (hb1.cell (p := ⟨w.heap.size, 7, none⟩) (by simp)).trans (by go_simp)
  have p8 : w1.cell? ⟨w.heap.size, 8, none⟩ = some (.bool c.ecn) := (hb1.cell (p := ⟨w.heap.size, 8, none⟩) (by simp)).trans (by go_simp)
  have p9 : w1.cell? ⟨w.heap.size, 9, none⟩ = some (.string c.key) := (hb1.cell (p := ⟨w.heap.size, 9, none⟩) (by simp)).trans (by go_simp)
  have hb0 : Below w.heap.size w w1 := ((Below.refl _ _).alloc (Nat.le_refl _) _).trans (hb1.mono (by simp))
  have y0 : w.heap.size < w1.heap.size := by have := hb1.size; simp at this; omega
  have HB0 : Bx _ := ⟨hb0⟩
  clear hb0 hb1 HS2
  cases r1
  · go_wp2_with fail
    go_ret
    refine ⟨ret_bool ?_, HB0.out⟩
    rw [← HR.out]
    exact (decide_eq_false (fun e => by have := H1.out; rw [decide_eq_true e.1] at this; cases this)).symm
  · go_wp2_with fail
    refine (HT2.out _).mono ?_
    rintro e w2 ⟨rfl, hb2⟩
    have q9 : w2.cell? ⟨w.heap.size, 9, none⟩ = some (.string c.key) := (hb2.cell (p := ⟨w.heap.size, 9, none⟩) y0).trans p9
    have HB2 : Bx (Below w.heap.size w w2) := ⟨HB0.out.trans (hb2.mono (by omega))⟩
    clear hb2 HT2 p0 p1 p2 p3 p4 p5 p6 p7 p8 p9
    cases r2
    · go_wp2_with fail
      go_ret
      refine ⟨ret_bool ?_, HB2.out⟩
      rw [← HR.out]
      exact (decide_eq_false (fun e => by have := H2.out; rw [decide_eq_true e.2.1] at this; cases this)).symm
    · go_wp2_with fail
      go_ret
      refine ⟨ret_bool ?_, HB2.out⟩
      rw [← HR.out]
      have h1 := of_decide_eq_true H1.out
      have h2 := of_decide_eq_true H2.out
      exact decide_eq_decide.2 ⟨fun e => ⟨h1, h2, by omega⟩, fun e => by have := e.2.2; omega⟩

end Go.Proofs.Ytnkicbopebgppab
