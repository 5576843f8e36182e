import Derived.Test.YtnkicbopebgppaaP04
import Derived.Test.YtnkicbopebgppaaProg
import Derived.Test.YtnkicbopebgppaaP01
namespace Go.Proofs.Ytnkicbopebgppaa
open Go.RowKit Fl

set_option maxRecDepth 100000 in
set_option maxHeartbeats 12800000 in
theorem begin_drop (own : Nat → Nat) (tB tq td b ty N o : Nat) (f : Nat → Value) (v : Value) (k : Bk) (fr f2 : Fm) (fd2 late2 : Bool) (k2 : Bk) (c : Cf) (now : Nat) (w : World) (h : BkAt own w tB tq b ty N o f v k) (hj : Junk own w) (htB : tB ≠ 0) (htq : tq ≠ 0) (htd : td ≠ 0) (htd1 : td ≠ tB) (htd2 : td ≠ tq)
    (hc : c.ok) (hnow : now ≤ 4611686018427387904) (hab : k.above ≤ 9000000000000000000) (hsi : ∀ x ∈ k.q, x.since ≤ now) (hs : fr.s.size ≤ 200) (hm : marksB c fr = false) (hR : Bx (k.take c now = (f2, fd2, late2, k2)))
    (hnx : k2.next ≤ 4700000000000000000) (hcn : k2.count ≤ 4000000000) (hla : k2.last ≤ k2.count) :
    Calls Try.prog 80 #[.pointer (some ⟨b, o, none⟩), gvVal (.slice none 0 0) fr true false, c.val, .int .i64 now] w fun e w' => ∃ own' db dk, e = .returned (gvVal (.slice (some db) 1 dk) f2 fd2 false) ∧
      GvPost own own' w w' tB tq td b ty N o f (k2.starts c now) (.slice (some db) 1 dk) [fr] := by
  have hblt := h.row.row.lt
  have hT0 : ¬ ((0 : Nat) = tB ∨ (0 : Nat) = tq) := by omega
  have i1 := hc.t1; have i2 := hc.t2; have i3 := hc.i2
  obtain ⟨i0, hi, hz0, hz1, hz2⟩ := info_parts infoFrame
  obtain ⟨cnt, Hcnt⟩ : ∃ cnt, Bx (k2.fresh c now = cnt) := ⟨_, ⟨rfl⟩⟩
  obtain ⟨b1, b2⟩ := k2.fresh_bd c now
  rw [Hcnt.out] at b1 b2
  have hstep := stepOf_le c.interval cnt b1
  have hmk := markIfCan_any none 0 0 fr fr true false false c
  have htk := fun own2 f' v' wx => take_bk own2 tB tq b ty N o f' v' k c now wx (f2, fd2, late2, k2) hR
  have hof := fun wx => of_any c.interval cnt wx (by omega) i3 b1 (by omega)
  obtain ⟨sp, Hsp⟩ : ∃ sp, Bx (stepOf c.interval cnt = sp) := ⟨_, ⟨rfl⟩⟩
  rw [Hsp.out] at hstep hof
  have HS : Bx (k2.starts c now = { k2 with dropping := true, count := cnt, last := cnt, next := now + sp }) := ⟨by unfold Bk.starts; rw [Hcnt.out, Hsp.out]⟩
  have hfr := Hcnt.out
  unfold Bk.fresh at hfr
  have HFR : Bx _ := ⟨hfr⟩
  have HMK : Bx _ := ⟨hmk⟩
  have HTK : Bx _ := ⟨htk⟩
  have HOF : Bx _ := ⟨hof⟩
  have HC : Bx c.ok := ⟨hc⟩
  clear hmk hof hfr Hcnt htk hR hc
  obtain ⟨cb, cq, cp, cm, cl, ct, ci, cu, ce, ck⟩ := c
  simp only [Cf.val, gvVal] at *
  have hn1 : ∀ u ∈ fr.cells, u.oneCell' = true := by intro u hu; simp only [Fm.cells, List.mem_cons, List.not_mem_nil, or_false] at hu; rcases hu with rfl | rfl | rfl <;> rfl
  have HN1 : Bx _ := ⟨hn1⟩
  have hH : Bx (BkAt own w tB tq b ty N o f v k) := ⟨h⟩
  clear h hn1
  go_enter Try.func80, Try.ntmps80
  go_wp2_with fail
  refine (HMK.out _ (by omega) ⟨hm⟩ ⟨rfl⟩).mono ?_
  rintro e w1 ⟨rfl, hb1⟩
  simp only [Bool.or_false]
  have hz := hb1.size
  simp at hz
  have y0 : w.heap.size < w1.heap.size := by omega
  have y1 : w.heap.size + 1 < w1.heap.size := by omega
  have y2 : w.heap.size + 1 + 1 < w1.heap.size := by omega
  have y3 : b < w1.heap.size := by omega
  have hn0 : ¬ w.heap.size = b := by omega
  have hn0' : ¬ b = w.heap.size := by omega
  have hn1 : ¬ w.heap.size + 1 = b := by omega
  have hn2 : ¬ w.heap.size + 1 + 1 = b := by omega
  have hn2' : ¬ b = w.heap.size + 1 + 1 := by omega
  have hW : ∀ bb oo, bb < w.heap.size + 3 → w1.cell? ⟨bb, oo, none⟩ = _ := fun bb oo hlt => hb1.cell (p := ⟨bb, oo, none⟩) (by simp; omega)
  have hZ : ∀ bb oo, bb < w.heap.size + 3 → w1.frozen? ⟨bb, oo, none⟩ = _ := fun bb oo hlt => hb1.frozen (p := ⟨bb, oo, none⟩) (by simp; omega)
  have hbw : Below w.heap.size w w1 := (below3 w _ _ _).trans (hb1.mono (by simp; omega))
  have q0 : w1.cell? ⟨w.heap.size, 0, none⟩ = some (.slice none 0 0) := (hW _ _ (by omega)).trans (by go_simp)
  have q1 : w1.cell? ⟨w.heap.size, 1, none⟩ = some (.int .i64 fr.id) := (hW _ _ (by omega)).trans (by go_simp)
  have q2 : w1.cell? ⟨w.heap.size, 2, none⟩ = some (.string fr.s) := (hW _ _ (by omega)).trans (by go_simp)
  have q3 : w1.cell? ⟨w.heap.size, 3, none⟩ = some (.int .i64 fr.since) := (hW _ _ (by omega)).trans (by go_simp)
  have q4 : w1.cell? ⟨w.heap.size, 4, none⟩ = some (.bool true) := (hW _ _ (by omega)).trans (by go_simp)
  have q5 : w1.cell? ⟨w.heap.size, 5, none⟩ = some (.bool false) := (hW _ _ (by omega)).trans (by go_simp)
  have qz : ∀ i, w1.frozen? ⟨w.heap.size, i, none⟩ = false := fun i => (hZ _ _ (by omega)).trans (by go_simp)
  have p0 : w1.cell? ⟨w.heap.size + 1, 0, none⟩ = some (.int .i64 cb) := (hW _ _ (by omega)).trans (by go_simp)
  have p1 : w1.cell? ⟨w.heap.size + 1, 1, none⟩ = some (.int .i64 cq) := (hW _ _ (by omega)).trans (by go_simp)
  have p2 : w1.cell? ⟨w.heap.size + 1, 2, none⟩ = some (.int .i64 cp) := (hW _ _ (by omega)).trans (by go_simp)
  have p3 : w1.cell? ⟨w.heap.size + 1, 3, none⟩ = some (.int .i64 cm) := (hW _ _ (by omega)).trans (by go_simp)
  have p4 : w1.cell? ⟨w.heap.size + 1, 4, none⟩ = some (.int .i64 cl) := (hW _ _ (by omega)).trans (by go_simp)
  have p5 : w1.cell? ⟨w.heap.size + 1, 5, none⟩ = some (.int .i64 ct) := (hW _ _ (by omega)).trans (by go_simp)
  have p6 : w1.cell? ⟨w.heap.size + 1, 6, none⟩ = some (.int .i64 ci) := (hW _ _ (by omega)).trans (by go_simp)
  have p7 : w1.cell? ⟨w.heap.size + 1, 7, none⟩ = some (.int .i64 cu) := (hW _ _ (by omega)).trans (by go_simp)
  have p8 : w1.cell? ⟨w.heap.size + 1, 8, none⟩ = some (.bool ce) := (hW _ _ (by omega)).trans (by go_simp)
  have p9 : w1.cell? ⟨w.heap.size + 1, 9, none⟩ = some (.string ck) := (hW _ _ (by omega)).trans (by go_simp)
  have r0 : w1.cell? ⟨w.heap.size + 1 + 1, 0, none⟩ = some (.slice none 0 0) := (hW _ _ (by omega)).trans (by go_simp)
  have r1 : w1.cell? ⟨w.heap.size + 1 + 1, 1, none⟩ = some (.int .i64 0) := (hW _ _ (by omega)).trans (by go_simp)
  have r2 : w1.cell? ⟨w.heap.size + 1 + 1, 2, none⟩ = some (.string ⟨#[]⟩) := (hW _ _ (by omega)).trans (by go_simp)
  have r3 : w1.cell? ⟨w.heap.size + 1 + 1, 3, none⟩ = some (.int .i64 0) := (hW _ _ (by omega)).trans (by go_simp)
  have r4 : w1.cell? ⟨w.heap.size + 1 + 1, 4, none⟩ = some (.bool false) := (hW _ _ (by omega)).trans (by go_simp)
  have r5 : w1.cell? ⟨w.heap.size + 1 + 1, 5, none⟩ = some (.bool false) := (hW _ _ (by omega)).trans (by go_simp)
  have rz : ∀ i, w1.frozen? ⟨w.heap.size + 1 + 1, i, none⟩ = false := fun i => (hZ _ _ (by omega)).trans (by go_simp)
  clear hW hZ
  have Ho0 : Bx (own w.heap.size = 0 ∧ own (w.heap.size + 1) = 0 ∧ own (w.heap.size + 1 + 1) = 0) := ⟨hj _ (Nat.le_refl _), hj _ (by omega), hj _ (by omega)⟩
  go_wp2_with (at_builtin; refine wpList_append_sl _ rfl _ _ 91 rfl 98 i0 _ 3 32 Try.underlying91 hi hz0 hz1 hz2 rfl (by decide) anyG own td (.slice none 0 0) 0 [] rfl (Sl.nil _ _ _ _ _) ⟨w1.heap.size, 0, none⟩ 1 1 fr.cells rfl rfl (cells3 (by go_simp) (by go_simp) (by go_simp)) HN1.out (fun _ _ _ => trivial) (fun _ _ _ => trivial) (by decide) (by unfold maxLen; omega) (by omega) ?_)
  intro v' w2 own2 hsl2 hfr2 db dk hv2
  subst hv2
  have hs2 := hfr2.size
  simp [World.setCell] at hs2
  have s0 : w2.cell? ⟨w.heap.size, 0, none⟩ = some (.slice none 0 0) := (hfr2.cell (b := w.heap.size) _ (by simp [World.setCell]; omega) (by rw [Ho0.out.1]; exact fun e => htd e.symm)).trans (by go_simp)
  have s1 : w2.cell? ⟨w.heap.size, 1, none⟩ = some (.int .i64 fr.id) := (hfr2.cell (b := w.heap.size) _ (by simp [World.setCell]; omega) (by rw [Ho0.out.1]; exact fun e => htd e.symm)).trans (by go_simp)
  have s2 : w2.cell? ⟨w.heap.size, 2, none⟩ = some (.string fr.s) := (hfr2.cell (b := w.heap.size) _ (by simp [World.setCell]; omega) (by rw [Ho0.out.1]; exact fun e => htd e.symm)).trans (by go_simp)
  have s3 : w2.cell? ⟨w.heap.size, 3, none⟩ = some (.int .i64 fr.since) := (hfr2.cell (b := w.heap.size) _ (by simp [World.setCell]; omega) (by rw [Ho0.out.1]; exact fun e => htd e.symm)).trans (by go_simp)
  have s4 : w2.cell? ⟨w.heap.size, 4, none⟩ = some (.bool true) := (hfr2.cell (b := w.heap.size) _ (by simp [World.setCell]; omega) (by rw [Ho0.out.1]; exact fun e => htd e.symm)).trans (by go_simp)
  have s5 : w2.cell? ⟨w.heap.size, 5, none⟩ = some (.bool false) := (hfr2.cell (b := w.heap.size) _ (by simp [World.setCell]; omega) (by rw [Ho0.out.1]; exact fun e => htd e.symm)).trans (by go_simp)
  have sz : ∀ i, w2.frozen? ⟨w.heap.size, i, none⟩ = false := fun i => (hfr2.frozen (b := w.heap.size) _ (by simp [World.setCell]; omega) (by rw [Ho0.out.1]; exact fun e => htd e.symm)).trans (by go_simp)
  have t0 : w2.cell? ⟨w.heap.size + 1, 0, none⟩ = some (.int .i64 cb) := (hfr2.cell (b := w.heap.size + 1) _ (by simp [World.setCell]; omega) (by rw [Ho0.out.2.1]; exact fun e => htd e.symm)).trans (by go_simp)
  have t1 : w2.cell? ⟨w.heap.size + 1, 1, none⟩ = some (.int .i64 cq) := (hfr2.cell (b := w.heap.size + 1) _ (by simp [World.setCell]; omega) (by rw [Ho0.out.2.1]; exact fun e => htd e.symm)).trans (by go_simp)
  have t2 : w2.cell? ⟨w.heap.size + 1, 2, none⟩ = some (.int .i64 cp) := (hfr2.cell (b := w.heap.size + 1) _ (by simp [World.setCell]; omega) (by rw [Ho0.out.2.1]; exact fun e => htd e.symm)).trans (by go_simp)
  have t3 : w2.cell? ⟨w.heap.size + 1, 3, none⟩ = some (.int .i64 cm) := (hfr2.cell (b := w.heap.size + 1) _ (by simp [World.setCell]; omega) (by rw [Ho0.out.2.1]; exact fun e => htd e.symm)).trans (by go_simp)
  have t4 : w2.cell? ⟨w.heap.size + 1, 4, none⟩ = some (.int .i64 cl) := (hfr2.cell (b := w.heap.size + 1) _ (by simp [World.setCell]; omega) (by rw [Ho0.out.2.1]; exact fun e => htd e.symm)).trans (by go_simp)
  have t5 : w2.cell? ⟨w.heap.size + 1, 5, none⟩ = some (.int .i64 ct) := (hfr2.cell (b := w.heap.size + 1) _ (by simp [World.setCell]; omega) (by rw [Ho0.out.2.1]; exact fun e => htd e.symm)).trans (by go_simp)
  have t6 : w2.cell? ⟨w.heap.size + 1, 6, none⟩ = some (.int .i64 ci) := (hfr2.cell (b := w.heap.size + 1) _ (by simp [World.setCell]; omega) (by rw [Ho0.out.2.1]; exact fun e => htd e.symm)).trans (by go_simp)
  have t7 : w2.cell? ⟨w.heap.size + 1, 7, none⟩ = some (.int .i64 cu) := (hfr2.cell (b := w.heap.size + 1) _ (by simp [World.setCell]; omega) (by rw [Ho0.out.2.1]; exact fun e => htd e.symm)).trans (by go_simp)
  have t8 : w2.cell? ⟨w.heap.size + 1, 8, none⟩ = some (.bool ce) := (hfr2.cell (b := w.heap.size + 1) _ (by simp [World.setCell]; omega) (by rw [Ho0.out.2.1]; exact fun e => htd e.symm)).trans (by go_simp)
  have t9 : w2.cell? ⟨w.heap.size + 1, 9, none⟩ = some (.string ck) := (hfr2.cell (b := w.heap.size + 1) _ (by simp [World.setCell]; omega) (by rw [Ho0.out.2.1]; exact fun e => htd e.symm)).trans (by go_simp)
  have u0 : w2.cell? ⟨w.heap.size + 1 + 1, 0, none⟩ = some (.slice none 0 0) := (hfr2.cell (b := w.heap.size + 1 + 1) _ (by simp [World.setCell]; omega) (by rw [Ho0.out.2.2]; exact fun e => htd e.symm)).trans (by go_simp)
  have u1 : w2.cell? ⟨w.heap.size + 1 + 1, 1, none⟩ = some (.int .i64 0) := (hfr2.cell (b := w.heap.size + 1 + 1) _ (by simp [World.setCell]; omega) (by rw [Ho0.out.2.2]; exact fun e => htd e.symm)).trans (by go_simp)
  have u2 : w2.cell? ⟨w.heap.size + 1 + 1, 2, none⟩ = some (.string ⟨#[]⟩) := (hfr2.cell (b := w.heap.size + 1 + 1) _ (by simp [World.setCell]; omega) (by rw [Ho0.out.2.2]; exact fun e => htd e.symm)).trans (by go_simp)
  have u3 : w2.cell? ⟨w.heap.size + 1 + 1, 3, none⟩ = some (.int .i64 0) := (hfr2.cell (b := w.heap.size + 1 + 1) _ (by simp [World.setCell]; omega) (by rw [Ho0.out.2.2]; exact fun e => htd e.symm)).trans (by go_simp)
  have u4 : w2.cell? ⟨w.heap.size + 1 + 1, 4, none⟩ = some (.bool false) := (hfr2.cell (b := w.heap.size + 1 + 1) _ (by simp [World.setCell]; omega) (by rw [Ho0.out.2.2]; exact fun e => htd e.symm)).trans (by go_simp)
  have u5 : w2.cell? ⟨w.heap.size + 1 + 1, 5, none⟩ = some (.bool false) := (hfr2.cell (b := w.heap.size + 1 + 1) _ (by simp [World.setCell]; omega) (by rw [Ho0.out.2.2]; exact fun e => htd e.symm)).trans (by go_simp)
  have uz : ∀ i, w2.frozen? ⟨w.heap.size + 1 + 1, i, none⟩ = false := fun i => (hfr2.frozen (b := w.heap.size + 1 + 1) _ (by simp [World.setCell]; omega) (by rw [Ho0.out.2.2]; exact fun e => htd e.symm)).trans (by go_simp)
  have h2 := (((hH.out.below hbw).fr ((((((((Fr.refl (fun t => t = 0) own w1).setCell w.heap.size 0 (.slice none 0 0) Ho0.out.1).setCell w.heap.size 1 (.int .i64 fr.id) Ho0.out.1).setCell w.heap.size 2 (.string fr.s) Ho0.out.1).setCell w.heap.size 3 (.int .i64 fr.since) Ho0.out.1).setCell w.heap.size 4 (.bool true) Ho0.out.1).setCell w.heap.size 5 (.bool false) Ho0.out.1).alloc _) htB htq).fr hfr2 htd1.symm htd2.symm)
  have hfw2 : Fr (fun t => t = tB ∨ t = tq ∨ t = td) own own2 w w2 := ((((((((Fr.below hbw : Fr (fun t => t = tB ∨ t = tq ∨ t = td) own own w w1).setNew w.heap.size 0 (.slice none 0 0) (Nat.le_refl _)).setNew w.heap.size 1 (.int .i64 fr.id) (Nat.le_refl _)).setNew w.heap.size 2 (.string fr.s) (Nat.le_refl _)).setNew w.heap.size 3 (.int .i64 fr.since) (Nat.le_refl _)).setNew w.heap.size 4 (.bool true) (Nat.le_refl _)).setNew w.heap.size 5 (.bool false) (Nat.le_refl _)).alloc _).trans (hfr2.mono (fun t e => .inr (.inr e)))
  have hj2 : Junk own2 w2 := hfw2.junk hj
  have Ho2 : Bx (own2 w.heap.size = 0 ∧ own2 (w.heap.size + 1) = 0 ∧ own2 (w.heap.size + 1 + 1) = 0) := ⟨(hfr2.old _ (by simp [World.setCell]; omega)).trans Ho0.out.1, (hfr2.old _ (by simp [World.setCell]; omega)).trans Ho0.out.2.1, (hfr2.old _ (by simp [World.setCell]; omega)).trans Ho0.out.2.2⟩
  have H2 : Bx (BkAt own2 w2 tB tq b ty N o f v k ∧ Fr (fun t => t = tB ∨ t = tq ∨ t = td) own own2 w w2 ∧ Junk own2 w2 ∧ Sl anyG own2 w2 td 3 (.slice (some db) 1 dk) 1 fr.cells) := ⟨h2, hfw2, hj2, hsl2⟩
  have y4 : w.heap.size < w2.heap.size := by omega
  have y5 : w.heap.size + 1 < w2.heap.size := by omega
  have y6 : w.heap.size + 1 + 1 < w2.heap.size := by omega
  have y7 : b < w2.heap.size := by omega
  clear h2 hfw2 hj2 hsl2 hfr2 q0 q1 q2 q3 q4 q5 qz p0 p1 p2 p3 p4 p5 p6 p7 p8 p9 r0 r1 r2 r3 r4 r5 rz hb1 hbw hj
  go_wp2_with fail
  have hF0 : Fr (fun t => t = 0) own2 own2 w2 (w2.setCell ⟨w.heap.size, 0, none⟩ (.slice (some db) 1 dk)) := (Fr.refl _ _ _).setCell _ _ _ Ho2.out.1
  refine (HTK.out own2 f v _ (H2.out.1.fr hF0 htB htq) (hF0.junk H2.out.2.2.1) htB htq HC.out hnow hab hsi).mono ?_
  rintro e w3 ⟨rfl, ⟨f3, v3, h3, hof3, hfr3⟩⟩
  simp only [Fm.val]
  have hs3 := hfr3.size
  simp [World.setCell] at hs3
  have a0 : w3.cell? ⟨w.heap.size, 0, none⟩ = some (.slice (some db) 1 dk) := (hfr3.cell (b := w.heap.size) _ (by simp [World.setCell]; omega) (by rw [Ho2.out.1]; exact hT0)).trans (by go_simp)
  have a1 : w3.cell? ⟨w.heap.size, 1, none⟩ = some (.int .i64 fr.id) := (hfr3.cell (b := w.heap.size) _ (by simp [World.setCell]; omega) (by rw [Ho2.out.1]; exact hT0)).trans (by go_simp)
  have a2 : w3.cell? ⟨w.heap.size, 2, none⟩ = some (.string fr.s) := (hfr3.cell (b := w.heap.size) _ (by simp [World.setCell]; omega) (by rw [Ho2.out.1]; exact hT0)).trans (by go_simp)
  have a3 : w3.cell? ⟨w.heap.size, 3, none⟩ = some (.int .i64 fr.since) := (hfr3.cell (b := w.heap.size) _ (by simp [World.setCell]; omega) (by rw [Ho2.out.1]; exact hT0)).trans (by go_simp)
  have a4 : w3.cell? ⟨w.heap.size, 4, none⟩ = some (.bool true) := (hfr3.cell (b := w.heap.size) _ (by simp [World.setCell]; omega) (by rw [Ho2.out.1]; exact hT0)).trans (by go_simp)
  have a5 : w3.cell? ⟨w.heap.size, 5, none⟩ = some (.bool false) := (hfr3.cell (b := w.heap.size) _ (by simp [World.setCell]; omega) (by rw [Ho2.out.1]; exact hT0)).trans (by go_simp)
  have az : ∀ i, w3.frozen? ⟨w.heap.size, i, none⟩ = false := fun i => (hfr3.frozen (b := w.heap.size) _ (by simp [World.setCell]; omega) (by rw [Ho2.out.1]; exact hT0)).trans (by go_simp)
  have a6 : w3.cell? ⟨w.heap.size + 1, 6, none⟩ = some (.int .i64 ci) := (hfr3.cell (b := w.heap.size + 1) _ (by simp [World.setCell]; omega) (by rw [Ho2.out.2.1]; exact hT0)).trans (by go_simp)
  have c0 : w3.cell? ⟨w.heap.size + 1 + 1, 0, none⟩ = some (.slice none 0 0) := (hfr3.cell (b := w.heap.size + 1 + 1) _ (by simp [World.setCell]; omega) (by rw [Ho2.out.2.2]; exact hT0)).trans (by go_simp)
  have c1 : w3.cell? ⟨w.heap.size + 1 + 1, 1, none⟩ = some (.int .i64 0) := (hfr3.cell (b := w.heap.size + 1 + 1) _ (by simp [World.setCell]; omega) (by rw [Ho2.out.2.2]; exact hT0)).trans (by go_simp)
  have c2 : w3.cell? ⟨w.heap.size + 1 + 1, 2, none⟩ = some (.string ⟨#[]⟩) := (hfr3.cell (b := w.heap.size + 1 + 1) _ (by simp [World.setCell]; omega) (by rw [Ho2.out.2.2]; exact hT0)).trans (by go_simp)
  have c3 : w3.cell? ⟨w.heap.size + 1 + 1, 3, none⟩ = some (.int .i64 0) := (hfr3.cell (b := w.heap.size + 1 + 1) _ (by simp [World.setCell]; omega) (by rw [Ho2.out.2.2]; exact hT0)).trans (by go_simp)
  have c4 : w3.cell? ⟨w.heap.size + 1 + 1, 4, none⟩ = some (.bool false) := (hfr3.cell (b := w.heap.size + 1 + 1) _ (by simp [World.setCell]; omega) (by rw [Ho2.out.2.2]; exact hT0)).trans (by go_simp)
  have c5 : w3.cell? ⟨w.heap.size + 1 + 1, 5, none⟩ = some (.bool false) := (hfr3.cell (b := w.heap.size + 1 + 1) _ (by simp [World.setCell]; omega) (by rw [Ho2.out.2.2]; exact hT0)).trans (by go_simp)
  have cz : ∀ i, w3.frozen? ⟨w.heap.size + 1 + 1, i, none⟩ = false := fun i => (hfr3.frozen (b := w.heap.size + 1 + 1) _ (by simp [World.setCell]; omega) (by rw [Ho2.out.2.2]; exact hT0)).trans (by go_simp)
  have l4 : w3.cell? ⟨b, o + 4, none⟩ = some (.bool k2.dropping) := h3.cell 4 (by omega)
  have lz := h3.row.row.frozen
  have hfw3 : Fr (fun t => t = tB ∨ t = tq ∨ t = td) own own2 w w3 := (H2.out.2.1.setNew w.heap.size _ _ (Nat.le_refl _)).trans (hfr3.mono (fun t e => e.elim .inl (fun x => .inr (.inl x))))
  have hsl3 := (H2.out.2.2.2.fr hF0 htd).fr hfr3 (fun e => e.elim htd1 htd2)
  have H3 : Bx (BkAt own2 w3 tB tq b ty N o f3 v3 k2 ∧ Fr (fun t => t = tB ∨ t = tq ∨ t = td) own own2 w w3 ∧ Sl anyG own2 w3 td 3 (.slice (some db) 1 dk) 1 fr.cells) := ⟨h3, hfw3, hsl3⟩
  have y8 : w.heap.size < w3.heap.size := by omega
  have y9 : w.heap.size + 1 < w3.heap.size := by omega
  have y10 : w.heap.size + 1 + 1 < w3.heap.size := by omega
  have y11 : b < w3.heap.size := by omega
  clear h3 hfw3 hsl3 hfr3 hF0 s0 s1 s2 s3 s4 s5 sz t0 t1 t2 t3 t4 t5 t6 t7 t8 t9 u0 u1 u2 u3 u4 u5 uz H2 y0 y1 y2 y3 y4 y5 y6 y7
  go_wp2_with fail
  obtain ⟨f4, h4, hof4⟩ := (H3.out.1.fr (((((Fr.refl (fun t => t = 0) own2 w3).setCell w.heap.size 1 (.int .i64 f2.id) Ho2.out.1).setCell w.heap.size 2 (.string f2.s) Ho2.out.1).setCell w.heap.size 3 (.int .i64 f2.since) Ho2.out.1).setCell w.heap.size 4 (.bool fd2) Ho2.out.1) htB htq).set (k' := { k2 with dropping := true }) 4 (.bool true) rfl (by omega) (fun j hj => by match j, hj with | 0, _ => rfl | 1, _ => rfl | 2, _ => rfl | 3, _ => rfl | 4, _ => rfl | 5, _ => rfl | 6, _ => rfl | 7, _ => rfl)
  have h5 := h4.below ((Below.refl _ _).alloc (Nat.le_refl _) (Obj.cells #[.int .i64 f2.id, .string f2.s, .int .i64 f2.since] 98))
  have hfr4 : Fr (fun t => t = tB ∨ t = tq ∨ t = td) own own2 w ((((((w3.setCell ⟨w.heap.size, 1, none⟩ (.int .i64 f2.id)).setCell ⟨w.heap.size, 2, none⟩ (.string f2.s)).setCell ⟨w.heap.size, 3, none⟩ (.int .i64 f2.since)).setCell ⟨w.heap.size, 4, none⟩ (.bool fd2)).setCell ⟨b, o + 4, none⟩ (.bool true)).alloc (Obj.cells #[.int .i64 f2.id, .string f2.s, .int .i64 f2.since] 98)) := (((((H3.out.2.1.setNew w.heap.size 1 (.int .i64 f2.id) (Nat.le_refl _)).setNew w.heap.size 2 (.string f2.s) (Nat.le_refl _)).setNew w.heap.size 3 (.int .i64 f2.since) (Nat.le_refl _)).setNew w.heap.size 4 (.bool fd2) (Nat.le_refl _)).setCell b (o + 4) (.bool true) (.inl H3.out.1.row.tag)).alloc _
  have hsl4 : Sl anyG own2 ((((((w3.setCell ⟨w.heap.size, 1, none⟩ (.int .i64 f2.id)).setCell ⟨w.heap.size, 2, none⟩ (.string f2.s)).setCell ⟨w.heap.size, 3, none⟩ (.int .i64 f2.since)).setCell ⟨w.heap.size, 4, none⟩ (.bool fd2)).setCell ⟨b, o + 4, none⟩ (.bool true)).alloc (Obj.cells #[.int .i64 f2.id, .string f2.s, .int .i64 f2.since] 98)) td 3 (.slice (some db) 1 dk) 1 fr.cells := H3.out.2.2.fr (((((((Fr.refl (fun t => t = 0 ∨ t = tB) own2 w3).setCell w.heap.size 1 (.int .i64 f2.id) (.inl Ho2.out.1)).setCell w.heap.size 2 (.string f2.s) (.inl Ho2.out.1)).setCell w.heap.size 3 (.int .i64 f2.since) (.inl Ho2.out.1)).setCell w.heap.size 4 (.bool fd2) (.inl Ho2.out.1)).setCell b (o + 4) (.bool true) (.inr H3.out.1.row.tag)).alloc _) (fun e => e.elim htd htd1)
  have hsz4 : w.heap.size + 3 ≤ ((((((w3.setCell ⟨w.heap.size, 1, none⟩ (.int .i64 f2.id)).setCell ⟨w.heap.size, 2, none⟩ (.string f2.s)).setCell ⟨w.heap.size, 3, none⟩ (.int .i64 f2.since)).setCell ⟨w.heap.size, 4, none⟩ (.bool fd2)).setCell ⟨b, o + 4, none⟩ (.bool true)).alloc (Obj.cells #[.int .i64 f2.id, .string f2.s, .int .i64 f2.since] 98)).heap.size := by simp [World.setCell]; omega
  have s0 : ((((((w3.setCell ⟨w.heap.size, 1, none⟩ (.int .i64 f2.id)).setCell ⟨w.heap.size, 2, none⟩ (.string f2.s)).setCell ⟨w.heap.size, 3, none⟩ (.int .i64 f2.since)).setCell ⟨w.heap.size, 4, none⟩ (.bool fd2)).setCell ⟨b, o + 4, none⟩ (.bool true)).alloc (Obj.cells #[.int .i64 f2.id, .string f2.s, .int .i64 f2.since] 98)).cell? ⟨w.heap.size, 0, none⟩ = some (.slice (some db) 1 dk) := by go_simp
  have s1 : ((((((w3.setCell ⟨w.heap.size, 1, none⟩ (.int .i64 f2.id)).setCell ⟨w.heap.size, 2, none⟩ (.string f2.s)).setCell ⟨w.heap.size, 3, none⟩ (.int .i64 f2.since)).setCell ⟨w.heap.size, 4, none⟩ (.bool fd2)).setCell ⟨b, o + 4, none⟩ (.bool true)).alloc (Obj.cells #[.int .i64 f2.id, .string f2.s, .int .i64 f2.since] 98)).cell? ⟨w.heap.size, 1, none⟩ = some (.int .i64 f2.id) := by go_simp
  have s2 : ((((((w3.setCell ⟨w.heap.size, 1, none⟩ (.int .i64 f2.id)).setCell ⟨w.heap.size, 2, none⟩ (.string f2.s)).setCell ⟨w.heap.size, 3, none⟩ (.int .i64 f2.since)).setCell ⟨w.heap.size, 4, none⟩ (.bool fd2)).setCell ⟨b, o + 4, none⟩ (.bool true)).alloc (Obj.cells #[.int .i64 f2.id, .string f2.s, .int .i64 f2.since] 98)).cell? ⟨w.heap.size, 2, none⟩ = some (.string f2.s) := by go_simp
  have s3 : ((((((w3.setCell ⟨w.heap.size, 1, none⟩ (.int .i64 f2.id)).setCell ⟨w.heap.size, 2, none⟩ (.string f2.s)).setCell ⟨w.heap.size, 3, none⟩ (.int .i64 f2.since)).setCell ⟨w.heap.size, 4, none⟩ (.bool fd2)).setCell ⟨b, o + 4, none⟩ (.bool true)).alloc (Obj.cells #[.int .i64 f2.id, .string f2.s, .int .i64 f2.since] 98)).cell? ⟨w.heap.size, 3, none⟩ = some (.int .i64 f2.since) := by go_simp
  have s4 : ((((((w3.setCell ⟨w.heap.size, 1, none⟩ (.int .i64 f2.id)).setCell ⟨w.heap.size, 2, none⟩ (.string f2.s)).setCell ⟨w.heap.size, 3, none⟩ (.int .i64 f2.since)).setCell ⟨w.heap.size, 4, none⟩ (.bool fd2)).setCell ⟨b, o + 4, none⟩ (.bool true)).alloc (Obj.cells #[.int .i64 f2.id, .string f2.s, .int .i64 f2.since] 98)).cell? ⟨w.heap.size, 4, none⟩ = some (.bool fd2) := by go_simp
  have s5 : ((((((w3.setCell ⟨w.heap.size, 1, none⟩ (.int .i64 f2.id)).setCell ⟨w.heap.size, 2, none⟩ (.string f2.s)).setCell ⟨w.heap.size, 3, none⟩ (.int .i64 f2.since)).setCell ⟨w.heap.size, 4, none⟩ (.bool fd2)).setCell ⟨b, o + 4, none⟩ (.bool true)).alloc (Obj.cells #[.int .i64 f2.id, .string f2.s, .int .i64 f2.since] 98)).cell? ⟨w.heap.size, 5, none⟩ = some (.bool false) := by go_simp
  have u0 : ((((((w3.setCell ⟨w.heap.size, 1, none⟩ (.int .i64 f2.id)).setCell ⟨w.heap.size, 2, none⟩ (.string f2.s)).setCell ⟨w.heap.size, 3, none⟩ (.int .i64 f2.since)).setCell ⟨w.heap.size, 4, none⟩ (.bool fd2)).setCell ⟨b, o + 4, none⟩ (.bool true)).alloc (Obj.cells #[.int .i64 f2.id, .string f2.s, .int .i64 f2.since] 98)).cell? ⟨w.heap.size + 1 + 1, 0, none⟩ = some (.slice none 0 0) := by go_simp
  have u1 : ((((((w3.setCell ⟨w.heap.size, 1, none⟩ (.int .i64 f2.id)).setCell ⟨w.heap.size, 2, none⟩ (.string f2.s)).setCell ⟨w.heap.size, 3, none⟩ (.int .i64 f2.since)).setCell ⟨w.heap.size, 4, none⟩ (.bool fd2)).setCell ⟨b, o + 4, none⟩ (.bool true)).alloc (Obj.cells #[.int .i64 f2.id, .string f2.s, .int .i64 f2.since] 98)).cell? ⟨w.heap.size + 1 + 1, 1, none⟩ = some (.int .i64 0) := by go_simp
  have u2 : ((((((w3.setCell ⟨w.heap.size, 1, none⟩ (.int .i64 f2.id)).setCell ⟨w.heap.size, 2, none⟩ (.string f2.s)).setCell ⟨w.heap.size, 3, none⟩ (.int .i64 f2.since)).setCell ⟨w.heap.size, 4, none⟩ (.bool fd2)).setCell ⟨b, o + 4, none⟩ (.bool true)).alloc (Obj.cells #[.int .i64 f2.id, .string f2.s, .int .i64 f2.since] 98)).cell? ⟨w.heap.size + 1 + 1, 2, none⟩ = some (.string ⟨#[]⟩) := by go_simp
  have u3 : ((((((w3.setCell ⟨w.heap.size, 1, none⟩ (.int .i64 f2.id)).setCell ⟨w.heap.size, 2, none⟩ (.string f2.s)).setCell ⟨w.heap.size, 3, none⟩ (.int .i64 f2.since)).setCell ⟨w.heap.size, 4, none⟩ (.bool fd2)).setCell ⟨b, o + 4, none⟩ (.bool true)).alloc (Obj.cells #[.int .i64 f2.id, .string f2.s, .int .i64 f2.since] 98)).cell? ⟨w.heap.size + 1 + 1, 3, none⟩ = some (.int .i64 0) := by go_simp
  have u4 : ((((((w3.setCell ⟨w.heap.size, 1, none⟩ (.int .i64 f2.id)).setCell ⟨w.heap.size, 2, none⟩ (.string f2.s)).setCell ⟨w.heap.size, 3, none⟩ (.int .i64 f2.since)).setCell ⟨w.heap.size, 4, none⟩ (.bool fd2)).setCell ⟨b, o + 4, none⟩ (.bool true)).alloc (Obj.cells #[.int .i64 f2.id, .string f2.s, .int .i64 f2.since] 98)).cell? ⟨w.heap.size + 1 + 1, 4, none⟩ = some (.bool false) := by go_simp
  have u5 : ((((((w3.setCell ⟨w.heap.size, 1, none⟩ (.int .i64 f2.id)).setCell ⟨w.heap.size, 2, none⟩ (.string f2.s)).setCell ⟨w.heap.size, 3, none⟩ (.int .i64 f2.since)).setCell ⟨w.heap.size, 4, none⟩ (.bool fd2)).setCell ⟨b, o + 4, none⟩ (.bool true)).alloc (Obj.cells #[.int .i64 f2.id, .string f2.s, .int .i64 f2.since] 98)).cell? ⟨w.heap.size + 1 + 1, 5, none⟩ = some (.bool false) := by go_simp
  have uz : ∀ i, ((((((w3.setCell ⟨w.heap.size, 1, none⟩ (.int .i64 f2.id)).setCell ⟨w.heap.size, 2, none⟩ (.string f2.s)).setCell ⟨w.heap.size, 3, none⟩ (.int .i64 f2.since)).setCell ⟨w.heap.size, 4, none⟩ (.bool fd2)).setCell ⟨b, o + 4, none⟩ (.bool true)).alloc (Obj.cells #[.int .i64 f2.id, .string f2.s, .int .i64 f2.since] 98)).frozen? ⟨w.heap.size + 1 + 1, i, none⟩ = false := by intro i; go_simp
  have pz : ((((((w3.setCell ⟨w.heap.size, 1, none⟩ (.int .i64 f2.id)).setCell ⟨w.heap.size, 2, none⟩ (.string f2.s)).setCell ⟨w.heap.size, 3, none⟩ (.int .i64 f2.since)).setCell ⟨w.heap.size, 4, none⟩ (.bool fd2)).setCell ⟨b, o + 4, none⟩ (.bool true)).alloc (Obj.cells #[.int .i64 f2.id, .string f2.s, .int .i64 f2.since] 98)).cell? ⟨w.heap.size + 1, 6, none⟩ = some (.int .i64 ci) := by go_simp
  generalize ((((((w3.setCell ⟨w.heap.size, 1, none⟩ (.int .i64 f2.id)).setCell ⟨w.heap.size, 2, none⟩ (.string f2.s)).setCell ⟨w.heap.size, 3, none⟩ (.int .i64 f2.since)).setCell ⟨w.heap.size, 4, none⟩ (.bool fd2)).setCell ⟨b, o + 4, none⟩ (.bool true)).alloc (Obj.cells #[.int .i64 f2.id, .string f2.s, .int .i64 f2.since] 98)) = w4 at *
  clear a0 a1 a2 a3 a4 a5 a6 az c0 c1 c2 c3 c4 c5 cz l4 lz h4 H3
  have m5 : w4.cell? ⟨b, o + 5, none⟩ = some (.int .i64 k2.next) := h5.cell 5 (by omega)
  have m6 : w4.cell? ⟨b, o + 6, none⟩ = some (.int .i64 k2.count) := h5.cell 6 (by omega)
  have m7 : w4.cell? ⟨b, o + 7, none⟩ = some (.int .i64 k2.last) := h5.cell 7 (by omega)
  have mz := h5.row.row.frozen
  have hin := h5.inn
  have H5 : Bx (BkAt own2 w4 tB tq b ty N o f4 v3 { k2 with dropping := true } ∧ Fr (fun t => t = tB ∨ t = tq ∨ t = td) own own2 w w4 ∧ Sl anyG own2 w4 td 3 (.slice (some db) 1 dk) 1 fr.cells) := ⟨h5, hfr4, hsl4⟩
  clear h5 hfr4 hsl4
  go_region
  by_cases hA1 : k2.count ≤ k2.last + 1
  · have hcnt : cnt = 1 := by rw [← HFR.out, if_pos (.inl hA1)]
    subst hcnt
    have d1 : (k2.count : Int) - k2.last ≤ 1 := by omega
    go_wp2_with fail
    go_quiet (fail)
    go_wp2_with fail
    refine (HOF.out _).mono ?_
    rintro e w5 ⟨rfl, hb5⟩
    have hW0 : Below w4.heap.size w4 (w4.drewN (1 + nq)) := (Below.refl _ _).drewN _
    obtain ⟨f6, h6, hof6⟩ := (H5.out.1.below hW0).set (k' := { k2 with dropping := true, count := 1 }) 6 (.int .i64 (1 : Nat)) rfl (by omega) (fun j hj => by match j, hj with | 0, _ => rfl | 1, _ => rfl | 2, _ => rfl | 3, _ => rfl | 4, _ => rfl | 5, _ => rfl | 6, _ => rfl | 7, _ => rfl)
    obtain ⟨f7, h7, hof7⟩ := h6.set (k' := { k2 with dropping := true, count := 1, last := 1 }) 7 (.int .i64 (1 : Nat)) rfl (by omega) (fun j hj => by match j, hj with | 0, _ => rfl | 1, _ => rfl | 2, _ => rfl | 3, _ => rfl | 4, _ => rfl | 5, _ => rfl | 6, _ => rfl | 7, _ => rfl)
    have h8 := h7.below hb5
    have v5 : w5.cell? ⟨b, o + 5, none⟩ = some (.int .i64 k2.next) := h8.cell 5 (by omega)
    have vz := h8.row.row.frozen
    have x0 : w5.cell? ⟨w.heap.size, 0, none⟩ = some (.slice (some db) 1 dk) := (hb5.cell (p := ⟨w.heap.size, 0, none⟩) (by simp [World.setCell]; omega)).trans (by go_simp)
    have x1 : w5.cell? ⟨w.heap.size, 1, none⟩ = some (.int .i64 f2.id) := (hb5.cell (p := ⟨w.heap.size, 1, none⟩) (by simp [World.setCell]; omega)).trans (by go_simp)
    have x2 : w5.cell? ⟨w.heap.size, 2, none⟩ = some (.string f2.s) := (hb5.cell (p := ⟨w.heap.size, 2, none⟩) (by simp [World.setCell]; omega)).trans (by go_simp)
    have x3 : w5.cell? ⟨w.heap.size, 3, none⟩ = some (.int .i64 f2.since) := (hb5.cell (p := ⟨w.heap.size, 3, none⟩) (by simp [World.setCell]; omega)).trans (by go_simp)
    have x4 : w5.cell? ⟨w.heap.size, 4, none⟩ = some (.bool fd2) := (hb5.cell (p := ⟨w.heap.size, 4, none⟩) (by simp [World.setCell]; omega)).trans (by go_simp)
    have x5 : w5.cell? ⟨w.heap.size, 5, none⟩ = some (.bool false) := (hb5.cell (p := ⟨w.heap.size, 5, none⟩) (by simp [World.setCell]; omega)).trans (by go_simp)
    have y0 : w5.cell? ⟨w.heap.size + 1 + 1, 0, none⟩ = some (.slice none 0 0) := (hb5.cell (p := ⟨w.heap.size + 1 + 1, 0, none⟩) (by simp [World.setCell]; omega)).trans (by go_simp)
    have y1 : w5.cell? ⟨w.heap.size + 1 + 1, 1, none⟩ = some (.int .i64 0) := (hb5.cell (p := ⟨w.heap.size + 1 + 1, 1, none⟩) (by simp [World.setCell]; omega)).trans (by go_simp)
    have y2 : w5.cell? ⟨w.heap.size + 1 + 1, 2, none⟩ = some (.string ⟨#[]⟩) := (hb5.cell (p := ⟨w.heap.size + 1 + 1, 2, none⟩) (by simp [World.setCell]; omega)).trans (by go_simp)
    have y3 : w5.cell? ⟨w.heap.size + 1 + 1, 3, none⟩ = some (.int .i64 0) := (hb5.cell (p := ⟨w.heap.size + 1 + 1, 3, none⟩) (by simp [World.setCell]; omega)).trans (by go_simp)
    have y4 : w5.cell? ⟨w.heap.size + 1 + 1, 4, none⟩ = some (.bool false) := (hb5.cell (p := ⟨w.heap.size + 1 + 1, 4, none⟩) (by simp [World.setCell]; omega)).trans (by go_simp)
    have y5 : w5.cell? ⟨w.heap.size + 1 + 1, 5, none⟩ = some (.bool false) := (hb5.cell (p := ⟨w.heap.size + 1 + 1, 5, none⟩) (by simp [World.setCell]; omega)).trans (by go_simp)
    have yz : ∀ i, w5.frozen? ⟨w.heap.size + 1 + 1, i, none⟩ = false := fun i => (hb5.frozen (p := ⟨w.heap.size + 1 + 1, i, none⟩) (by simp [World.setCell]; omega)).trans (by go_simp)
    have hfr5 : Fr (fun t => t = tB ∨ t = tq ∨ t = td) own own2 w w5 := (((H5.out.2.1.trans (Fr.below hW0)).setCell b (o + 6) (.int .i64 (1 : Nat)) (.inl H5.out.1.row.tag)).setCell b (o + 7) (.int .i64 (1 : Nat)) (.inl H5.out.1.row.tag)).trans (Fr.below hb5)
    have hsl5 := ((H5.out.2.2.below hW0).fr (T := fun t => t = tB) (((Fr.refl _ own2 _).setCell b (o + 6) (.int .i64 (1 : Nat)) H5.out.1.row.tag).setCell b (o + 7) (.int .i64 (1 : Nat)) H5.out.1.row.tag) htd1).below hb5
    have H8 : Bx (BkAt own2 w5 tB tq b ty N o f7 v3 { k2 with dropping := true, count := 1, last := 1 } ∧ Fr (fun t => t = tB ∨ t = tq ∨ t = td) own own2 w w5 ∧ Sl anyG own2 w5 td 3 (.slice (some db) 1 dk) 1 fr.cells) := ⟨h8, hfr5, hsl5⟩
    clear h6 h7 h8 hb5 hfr5 hsl5 s0 s1 s2 s3 s4 s5 u0 u1 u2 u3 u4 u5 uz m5 m6 m7 mz pz
    go_wp2_with fail
    obtain ⟨f9, h9, hof9⟩ := H8.out.1.set (k' := { k2 with dropping := true, count := 1, last := 1, next := now + sp }) 5 (.int .i64 ((now : Int) + sp)) rfl (by omega) (fun j hj => by match j, hj with | 0, _ => rfl | 1, _ => rfl | 2, _ => rfl | 3, _ => rfl | 4, _ => rfl | 5, _ => rfl | 6, _ => rfl | 7, _ => rfl)
    refine bodyPost_ret (v := .agg #[.slice (some db) 1 dk, .int .i64 f2.id, .string f2.s, .int .i64 f2.since, .bool fd2, .bool false]) (by simp [results, Try.results80, go_sem, y0, y1, y2, y3, y4, y5]) rfl ⟨own2, db, dk, rfl, ⟨f9, v3, ?_, fun j hj => (hof9 j hj).trans ((hof7 j hj).trans ((hof6 j hj).trans ((hof4 j hj).trans (hof3 j hj)))), ?_, ?_⟩⟩
    · rw [HS.out]
      exact h9.fr (((((((Fr.refl (fun t => t = 0) own2 _).setCell (w.heap.size + 1 + 1) _ _ Ho2.out.2.2).setCell (w.heap.size + 1 + 1) _ _ Ho2.out.2.2).setCell (w.heap.size + 1 + 1) _ _ Ho2.out.2.2).setCell (w.heap.size + 1 + 1) _ _ Ho2.out.2.2).setCell (w.heap.size + 1 + 1) _ _ Ho2.out.2.2).setCell (w.heap.size + 1 + 1) _ _ Ho2.out.2.2) htB htq
    · exact ((((((H8.out.2.1.setCell b (o + 5) _ (.inl H8.out.1.row.tag)).setNew (w.heap.size + 1 + 1) _ _ (by omega)).setNew (w.heap.size + 1 + 1) _ _ (by omega)).setNew (w.heap.size + 1 + 1) _ _ (by omega)).setNew (w.heap.size + 1 + 1) _ _ (by omega)).setNew (w.heap.size + 1 + 1) _ _ (by omega)).setNew (w.heap.size + 1 + 1) _ _ (by omega)
    · exact H8.out.2.2.fr ((((((((Fr.refl (fun t => t = 0 ∨ t = tB) own2 _).setCell b (o + 5) _ (.inr H8.out.1.row.tag)).setCell (w.heap.size + 1 + 1) _ _ (.inl Ho2.out.2.2)).setCell (w.heap.size + 1 + 1) _ _ (.inl Ho2.out.2.2)).setCell (w.heap.size + 1 + 1) _ _ (.inl Ho2.out.2.2)).setCell (w.heap.size + 1 + 1) _ _ (.inl Ho2.out.2.2)).setCell (w.heap.size + 1 + 1) _ _ (.inl Ho2.out.2.2)).setCell (w.heap.size + 1 + 1) _ _ (.inl Ho2.out.2.2)) (fun e => e.elim htd htd1)
  · by_cases hA2 : k2.next + 16 * ci ≤ now
    · have hcnt : cnt = 1 := by rw [← HFR.out, if_pos (.inr hA2)]
      subst hcnt
      have d1 : decide ((k2.count : Int) - k2.last ≤ 1) = false := by simp; omega
      have d2 : 16 * (ci : Int) ≤ (now : Int) - k2.next := by omega
      go_wp2_with fail
      go_quiet (fail)
      go_wp2_with fail
      refine (HOF.out _).mono ?_
      rintro e w5 ⟨rfl, hb5⟩
      have hW0 : Below w4.heap.size w4 (w4.drewN (1 + nq)) := (Below.refl _ _).drewN _
      obtain ⟨f6, h6, hof6⟩ := (H5.out.1.below hW0).set (k' := { k2 with dropping := true, count := 1 }) 6 (.int .i64 (1 : Nat)) rfl (by omega) (fun j hj => by match j, hj with | 0, _ => rfl | 1, _ => rfl | 2, _ => rfl | 3, _ => rfl | 4, _ => rfl | 5, _ => rfl | 6, _ => rfl | 7, _ => rfl)
      obtain ⟨f7, h7, hof7⟩ := h6.set (k' := { k2 with dropping := true, count := 1, last := 1 }) 7 (.int .i64 (1 : Nat)) rfl (by omega) (fun j hj => by match j, hj with | 0, _ => rfl | 1, _ => rfl | 2, _ => rfl | 3, _ => rfl | 4, _ => rfl | 5, _ => rfl | 6, _ => rfl | 7, _ => rfl)
      have h8 := h7.below hb5
      have v5 : w5.cell? ⟨b, o + 5, none⟩ = some (.int .i64 k2.next) := h8.cell 5 (by omega)
      have vz := h8.row.row.frozen
      have x0 : w5.cell? ⟨w.heap.size, 0, none⟩ = some (.slice (some db) 1 dk) := (hb5.cell (p := ⟨w.heap.size, 0, none⟩) (by simp [World.setCell]; omega)).trans (by go_simp)
      have x1 : w5.cell? ⟨w.heap.size, 1, none⟩ = some (.int .i64 f2.id) := (hb5.cell (p := ⟨w.heap.size, 1, none⟩) (by simp [World.setCell]; omega)).trans (by go_simp)
      have x2 : w5.cell? ⟨w.heap.size, 2, none⟩ = some (.string f2.s) := (hb5.cell (p := ⟨w.heap.size, 2, none⟩) (by simp [World.setCell]; omega)).trans (by go_simp)
      have x3 : w5.cell? ⟨w.heap.size, 3, none⟩ = some (.int .i64 f2.since) := (hb5.cell (p := ⟨w.heap.size, 3, none⟩) (by simp [World.setCell]; omega)).trans (by go_simp)
      have x4 : w5.cell? ⟨w.heap.size, 4, none⟩ = some (.bool fd2) := (hb5.cell (p := ⟨w.heap.size, 4, none⟩) (by simp [World.setCell]; omega)).trans (by go_simp)
      have x5 : w5.cell? ⟨w.heap.size, 5, none⟩ = some (.bool false) := (hb5.cell (p := ⟨w.heap.size, 5, none⟩) (by simp [World.setCell]; omega)).trans (by go_simp)
      have y0 : w5.cell? ⟨w.heap.size + 1 + 1, 0, none⟩ = some (.slice none 0 0) := (hb5.cell (p := ⟨w.heap.size + 1 + 1, 0, none⟩) (by simp [World.setCell]; omega)).trans (by go_simp)
      have y1 : w5.cell? ⟨w.heap.size + 1 + 1, 1, none⟩ = some (.int .i64 0) := (hb5.cell (p := ⟨w.heap.size + 1 + 1, 1, none⟩) (by simp [World.setCell]; omega)).trans (by go_simp)
      have y2 : w5.cell? ⟨w.heap.size + 1 + 1, 2, none⟩ = some (.string ⟨#[]⟩) := (hb5.cell (p := ⟨w.heap.size + 1 + 1, 2, none⟩) (by simp [World.setCell]; omega)).trans (by go_simp)
      have y3 : w5.cell? ⟨w.heap.size + 1 + 1, 3, none⟩ = some (.int .i64 0) := (hb5.cell (p := ⟨w.heap.size + 1 + 1, 3, none⟩) (by simp [World.setCell]; omega)).trans (by go_simp)
      have y4 : w5.cell? ⟨w.heap.size + 1 + 1, 4, none⟩ = some (.bool false) := (hb5.cell (p := ⟨w.heap.size + 1 + 1, 4, none⟩) (by simp [World.setCell]; omega)).trans (by go_simp)
      have y5 : w5.cell? ⟨w.heap.size + 1 + 1, 5, none⟩ = some (.bool false) := (hb5.cell (p := ⟨w.heap.size + 1 + 1, 5, none⟩) (by simp [World.setCell]; omega)).trans (by go_simp)
      have yz : ∀ i, w5.frozen? ⟨w.heap.size + 1 + 1, i, none⟩ = false := fun i => (hb5.frozen (p := ⟨w.heap.size + 1 + 1, i, none⟩) (by simp [World.setCell]; omega)).trans (by go_simp)
      have hfr5 : Fr (fun t => t = tB ∨ t = tq ∨ t = td) own own2 w w5 := (((H5.out.2.1.trans (Fr.below hW0)).setCell b (o + 6) (.int .i64 (1 : Nat)) (.inl H5.out.1.row.tag)).setCell b (o + 7) (.int .i64 (1 : Nat)) (.inl H5.out.1.row.tag)).trans (Fr.below hb5)
      have hsl5 := ((H5.out.2.2.below hW0).fr (T := fun t => t = tB) (((Fr.refl _ own2 _).setCell b (o + 6) (.int .i64 (1 : Nat)) H5.out.1.row.tag).setCell b (o + 7) (.int .i64 (1 : Nat)) H5.out.1.row.tag) htd1).below hb5
      have H8 : Bx (BkAt own2 w5 tB tq b ty N o f7 v3 { k2 with dropping := true, count := 1, last := 1 } ∧ Fr (fun t => t = tB ∨ t = tq ∨ t = td) own own2 w w5 ∧ Sl anyG own2 w5 td 3 (.slice (some db) 1 dk) 1 fr.cells) := ⟨h8, hfr5, hsl5⟩
      clear h6 h7 h8 hb5 hfr5 hsl5 s0 s1 s2 s3 s4 s5 u0 u1 u2 u3 u4 u5 uz m5 m6 m7 mz pz
      go_wp2_with fail
      obtain ⟨f9, h9, hof9⟩ := H8.out.1.set (k' := { k2 with dropping := true, count := 1, last := 1, next := now + sp }) 5 (.int .i64 ((now : Int) + sp)) rfl (by omega) (fun j hj => by match j, hj with | 0, _ => rfl | 1, _ => rfl | 2, _ => rfl | 3, _ => rfl | 4, _ => rfl | 5, _ => rfl | 6, _ => rfl | 7, _ => rfl)
      refine bodyPost_ret (v := .agg #[.slice (some db) 1 dk, .int .i64 f2.id, .string f2.s, .int .i64 f2.since, .bool fd2, .bool false]) (by simp [results, Try.results80, go_sem, y0, y1, y2, y3, y4, y5]) rfl ⟨own2, db, dk, rfl, ⟨f9, v3, ?_, fun j hj => (hof9 j hj).trans ((hof7 j hj).trans ((hof6 j hj).trans ((hof4 j hj).trans (hof3 j hj)))), ?_, ?_⟩⟩
      · rw [HS.out]
        exact h9.fr (((((((Fr.refl (fun t => t = 0) own2 _).setCell (w.heap.size + 1 + 1) _ _ Ho2.out.2.2).setCell (w.heap.size + 1 + 1) _ _ Ho2.out.2.2).setCell (w.heap.size + 1 + 1) _ _ Ho2.out.2.2).setCell (w.heap.size + 1 + 1) _ _ Ho2.out.2.2).setCell (w.heap.size + 1 + 1) _ _ Ho2.out.2.2).setCell (w.heap.size + 1 + 1) _ _ Ho2.out.2.2) htB htq
      · exact ((((((H8.out.2.1.setCell b (o + 5) _ (.inl H8.out.1.row.tag)).setNew (w.heap.size + 1 + 1) _ _ (by omega)).setNew (w.heap.size + 1 + 1) _ _ (by omega)).setNew (w.heap.size + 1 + 1) _ _ (by omega)).setNew (w.heap.size + 1 + 1) _ _ (by omega)).setNew (w.heap.size + 1 + 1) _ _ (by omega)).setNew (w.heap.size + 1 + 1) _ _ (by omega)
      · exact H8.out.2.2.fr ((((((((Fr.refl (fun t => t = 0 ∨ t = tB) own2 _).setCell b (o + 5) _ (.inr H8.out.1.row.tag)).setCell (w.heap.size + 1 + 1) _ _ (.inl Ho2.out.2.2)).setCell (w.heap.size + 1 + 1) _ _ (.inl Ho2.out.2.2)).setCell (w.heap.size + 1 + 1) _ _ (.inl Ho2.out.2.2)).setCell (w.heap.size + 1 + 1) _ _ (.inl Ho2.out.2.2)).setCell (w.heap.size + 1 + 1) _ _ (.inl Ho2.out.2.2)).setCell (w.heap.size + 1 + 1) _ _ (.inl Ho2.out.2.2)) (fun e => e.elim htd htd1)
    · have hcnt : cnt = k2.count - k2.last := by rw [← HFR.out, if_neg (by omega)]
      have ecn : (k2.count : Int) - k2.last = cnt := by omega
      have d1 : decide ((cnt : Int) ≤ 1) = false := by simp; omega
      have d2 : decide (16 * (ci : Int) ≤ (now : Int) - k2.next) = false := by simp; omega
      clear hcnt
      go_wp2_with fail
      go_quiet (fail)
      go_wp2_with fail
      refine (HOF.out _).mono ?_
      rintro e w5 ⟨rfl, hb5⟩
      have hW0 : Below w4.heap.size w4 (w4.drewN (1 + nq)) := (Below.refl _ _).drewN _
      obtain ⟨f6, h6, hof6⟩ := (H5.out.1.below hW0).set (k' := { k2 with dropping := true, count := cnt }) 6 (.int .i64 (cnt : Nat)) rfl (by omega) (fun j hj => by match j, hj with | 0, _ => rfl | 1, _ => rfl | 2, _ => rfl | 3, _ => rfl | 4, _ => rfl | 5, _ => rfl | 6, _ => rfl | 7, _ => rfl)
      obtain ⟨f7, h7, hof7⟩ := h6.set (k' := { k2 with dropping := true, count := cnt, last := cnt }) 7 (.int .i64 (cnt : Nat)) rfl (by omega) (fun j hj => by match j, hj with | 0, _ => rfl | 1, _ => rfl | 2, _ => rfl | 3, _ => rfl | 4, _ => rfl | 5, _ => rfl | 6, _ => rfl | 7, _ => rfl)
      have h8 := h7.below hb5
      have v5 : w5.cell? ⟨b, o + 5, none⟩ = some (.int .i64 k2.next) := h8.cell 5 (by omega)
      have vz := h8.row.row.frozen
      have x0 : w5.cell? ⟨w.heap.size, 0, none⟩ = some (.slice (some db) 1 dk) := (hb5.cell (p := ⟨w.heap.size, 0, none⟩) (by simp [World.setCell]; omega)).trans (by go_simp)
      have x1 : w5.cell? ⟨w.heap.size, 1, none⟩ = some (.int .i64 f2.id) := (hb5.cell (p := ⟨w.heap.size, 1, none⟩) (by simp [World.setCell]; omega)).trans (by go_simp)
      have x2 : w5.cell? ⟨w.heap.size, 2, none⟩ = some (.string f2.s) := (hb5.cell (p := ⟨w.heap.size, 2, none⟩) (by simp [World.setCell]; omega)).trans (by go_simp)
      have x3 : w5.cell? ⟨w.heap.size, 3, none⟩ = some (.int .i64 f2.since) := (hb5.cell (p := ⟨w.heap.size, 3, none⟩) (by simp [World.setCell]; omega)).trans (by go_simp)
      have x4 : w5.cell? ⟨w.heap.size, 4, none⟩ = some (.bool fd2) := (hb5.cell (p := ⟨w.heap.size, 4, none⟩) (by simp [World.setCell]; omega)).trans (by go_simp)
      have x5 : w5.cell? ⟨w.heap.size, 5, none⟩ = some (.bool false) := (hb5.cell (p := ⟨w.heap.size, 5, none⟩) (by simp [World.setCell]; omega)).trans (by go_simp)
      have y0 : w5.cell? ⟨w.heap.size + 1 + 1, 0, none⟩ = some (.slice none 0 0) := (hb5.cell (p := ⟨w.heap.size + 1 + 1, 0, none⟩) (by simp [World.setCell]; omega)).trans (by go_simp)
      have y1 : w5.cell? ⟨w.heap.size + 1 + 1, 1, none⟩ = some (.int .i64 0) := (hb5.cell (p := ⟨w.heap.size + 1 + 1, 1, none⟩) (by simp [World.setCell]; omega)).trans (by go_simp)
      have y2 : w5.cell? ⟨w.heap.size + 1 + 1, 2, none⟩ = some (.string ⟨#[]⟩) := (hb5.cell (p := ⟨w.heap.size + 1 + 1, 2, none⟩) (by simp [World.setCell]; omega)).trans (by go_simp)
      have y3 : w5.cell? ⟨w.heap.size + 1 + 1, 3, none⟩ = some (.int .i64 0) := (hb5.cell (p := ⟨w.heap.size + 1 + 1, 3, none⟩) (by simp [World.setCell]; omega)).trans (by go_simp)
      have y4 : w5.cell? ⟨w.heap.size + 1 + 1, 4, none⟩ = some (.bool false) := (hb5.cell (p := ⟨w.heap.size + 1 + 1, 4, none⟩) (by simp [World.setCell]; omega)).trans (by go_simp)
      have y5 : w5.cell? ⟨w.heap.size + 1 + 1, 5, none⟩ = some (.bool false) := (hb5.cell (p := ⟨w.heap.size + 1 + 1, 5, none⟩) (by simp [World.setCell]; omega)).trans (by go_simp)
      have yz : ∀ i, w5.frozen? ⟨w.heap.size + 1 + 1, i, none⟩ = false := fun i => (hb5.frozen (p := ⟨w.heap.size + 1 + 1, i, none⟩) (by simp [World.setCell]; omega)).trans (by go_simp)
      have hfr5 : Fr (fun t => t = tB ∨ t = tq ∨ t = td) own own2 w w5 := (((H5.out.2.1.trans (Fr.below hW0)).setCell b (o + 6) (.int .i64 (cnt : Nat)) (.inl H5.out.1.row.tag)).setCell b (o + 7) (.int .i64 (cnt : Nat)) (.inl H5.out.1.row.tag)).trans (Fr.below hb5)
      have hsl5 := ((H5.out.2.2.below hW0).fr (T := fun t => t = tB) (((Fr.refl _ own2 _).setCell b (o + 6) (.int .i64 (cnt : Nat)) H5.out.1.row.tag).setCell b (o + 7) (.int .i64 (cnt : Nat)) H5.out.1.row.tag) htd1).below hb5
      have H8 : Bx (BkAt own2 w5 tB tq b ty N o f7 v3 { k2 with dropping := true, count := cnt, last := cnt } ∧ Fr (fun t => t = tB ∨ t = tq ∨ t = td) own own2 w w5 ∧ Sl anyG own2 w5 td 3 (.slice (some db) 1 dk) 1 fr.cells) := ⟨h8, hfr5, hsl5⟩
      clear h6 h7 h8 hb5 hfr5 hsl5 s0 s1 s2 s3 s4 s5 u0 u1 u2 u3 u4 u5 uz m5 m6 m7 mz pz
      go_wp2_with fail
      obtain ⟨f9, h9, hof9⟩ := H8.out.1.set (k' := { k2 with dropping := true, count := cnt, last := cnt, next := now + sp }) 5 (.int .i64 ((now : Int) + sp)) rfl (by omega) (fun j hj => by match j, hj with | 0, _ => rfl | 1, _ => rfl | 2, _ => rfl | 3, _ => rfl | 4, _ => rfl | 5, _ => rfl | 6, _ => rfl | 7, _ => rfl)
      refine bodyPost_ret (v := .agg #[.slice (some db) 1 dk, .int .i64 f2.id, .string f2.s, .int .i64 f2.since, .bool fd2, .bool false]) (by simp [results, Try.results80, go_sem, y0, y1, y2, y3, y4, y5]) rfl ⟨own2, db, dk, rfl, ⟨f9, v3, ?_, fun j hj => (hof9 j hj).trans ((hof7 j hj).trans ((hof6 j hj).trans ((hof4 j hj).trans (hof3 j hj)))), ?_, ?_⟩⟩
      · rw [HS.out]
        exact h9.fr (((((((Fr.refl (fun t => t = 0) own2 _).setCell (w.heap.size + 1 + 1) _ _ Ho2.out.2.2).setCell (w.heap.size + 1 + 1) _ _ Ho2.out.2.2).setCell (w.heap.size + 1 + 1) _ _ Ho2.out.2.2).setCell (w.heap.size + 1 + 1) _ _ Ho2.out.2.2).setCell (w.heap.size + 1 + 1) _ _ Ho2.out.2.2).setCell (w.heap.size + 1 + 1) _ _ Ho2.out.2.2) htB htq
      · exact ((((((H8.out.2.1.setCell b (o + 5) _ (.inl H8.out.1.row.tag)).setNew (w.heap.size + 1 + 1) _ _ (by omega)).setNew (w.heap.size + 1 + 1) _ _ (by omega)).setNew (w.heap.size + 1 + 1) _ _ (by omega)).setNew (w.heap.size + 1 + 1) _ _ (by omega)).setNew (w.heap.size + 1 + 1) _ _ (by omega)).setNew (w.heap.size + 1 + 1) _ _ (by omega)
      · exact H8.out.2.2.fr ((((((((Fr.refl (fun t => t = 0 ∨ t = tB) own2 _).setCell b (o + 5) _ (.inr H8.out.1.row.tag)).setCell (w.heap.size + 1 + 1) _ _ (.inl Ho2.out.2.2)).setCell (w.heap.size + 1 + 1) _ _ (.inl Ho2.out.2.2)).setCell (w.heap.size + 1 + 1) _ _ (.inl Ho2.out.2.2)).setCell (w.heap.size + 1 + 1) _ _ (.inl Ho2.out.2.2)).setCell (w.heap.size + 1 + 1) _ _ (.inl Ho2.out.2.2)).setCell (w.heap.size + 1 + 1) _ _ (.inl Ho2.out.2.2)) (fun e => e.elim htd htd1)

end Go.Proofs.Ytnkicbopebgppaa

namespace Go.Proofs.Ytnkicbopebgppaa
open Go.RowKit Fl

theorem BkAt.joined {own own' : Nat → Nat} {w w' : World} {tB tq b ty N o : Nat} {f : Nat → Value} {v v' : Value} {k : Bk} {fr : Fm} (h : BkAt own w tB tq b ty N o f v k)
    (hs : Sl anyG own' w' tq 3 v' (k.q ++ [fr]).length (fmCells (k.q ++ [fr]))) (hr : Row own' w' tB b ty N (fun j => if j = o + 1 then .int .i64 (qBytes k.q + fr.s.size : Nat) else if j = o then v' else f j)) (hl : k.q.length < 100) (hb : fr.s.size ≤ 200) :
    BkAt own' w' tB tq b ty N o (fun j => if j = o + 1 then .int .i64 (qBytes k.q + fr.s.size : Nat) else if j = o then v' else f j) v' { k with q := k.q ++ [fr] } := by
  refine ⟨hr, h.inn, ?_, hs, h.ne, by simp; omega, fun x hx => by simp at hx; rcases hx with hx | rfl; exact h.bytes x hx; exact hb⟩
  intro i hi
  have := h.cells i hi
  match i, hi, this with
  | 0, _, _ => simp [bkF]
  | 1, _, _ => simp [bkF, qBytes_snoc]
  | 2, _, this => simpa [bkF] using this
  | 3, _, this => simpa [bkF] using this
  | 4, _, this => simpa [bkF] using this
  | 5, _, this => simpa [bkF] using this
  | 6, _, this => simpa [bkF] using this
  | 7, _, this => simpa [bkF] using this

theorem qjoin_bk (own : Nat → Nat) (tB tq b ty N o : Nat) (f : Nat → Value) (v : Value) (k k' : Bk) (fr : Fm) (w : World) (h : BkAt own w tB tq b ty N o f v k) (hl : k.q.length < 100) (hb : fr.s.size ≤ 200) (hk : Bx ({ k with q := k.q ++ [fr] } = k')) :
    Calls Try.prog 61 #[.pointer (some ⟨b, o, none⟩), .agg #[.int .i64 fr.id, .string fr.s, .int .i64 fr.since]] w fun e w' => e = .returned (.tuple #[]) ∧ ∃ own', BkPost own own' w w' tB tq b ty N o f k' := by
  have hin := h.inn
  have hqb := qBytes_le _ h.bytes
  refine (qjoin_any own tB tq b o N ty f v k.q (qBytes k.q) fr w h.row (by omega) (h.cells 0 (by omega)) (h.cells 1 (by omega)) h.sl h.ne (by omega) (by omega) (by omega)).mono ?_
  rintro e w' ⟨rfl, v', own', hs, hr, hf⟩
  refine ⟨rfl, own', ⟨_, v', by rw [← hk.out]; exact h.joined hs hr hl hb, fun j hj => ?_, hf⟩⟩
  show (if j = o + 1 then _ else if j = o then _ else f j) = f j
  rw [if_neg (by omega), if_neg (by omega)]

set_option maxRecDepth 100000 in
set_option maxHeartbeats 800000 in
theorem bjoin_any (own : Nat → Nat) (tB tq b ty N o : Nat) (f : Nat → Value) (v : Value) (k k' : Bk) (fr : Fm) (w : World) (h : BkAt own w tB tq b ty N o f v k) (hl : k.q.length < 100) (hb : fr.s.size ≤ 200) (hk : Bx ({ k with q := k.q ++ [fr] } = k')) :
    Calls Try.prog 47 #[.pointer (some ⟨b, o, none⟩), .agg #[.int .i64 fr.id, .string fr.s, .int .i64 fr.since]] w fun e w' => e = .returned (.tuple #[]) ∧ ∃ own', BkPost own own' w w' tB tq b ty N o f k' := by
  have hW : BkAt own ((w.alloc (Obj.cells #[.int .i64 fr.id, .string fr.s, .int .i64 fr.since] 98)).drew) tB tq b ty N o f v k := h.below (((Below.refl _ _).alloc (Nat.le_refl _) _).drew)
  have HQ : Bx _ := ⟨qjoin_bk own tB tq b ty N o f v k k' fr _ hW hl hb hk⟩
  clear h hW hk
  go_enter Try.func47, Try.ntmps47
  go_wp2_with fail
  go_region_with (go_at_call 61; refine HQ.out.mono ?_; rintro e w1 ⟨rfl, own1, hP⟩)
  go_wp2_with fail
  go_end0
  obtain ⟨f', v', h', hj, hf⟩ := hP.ex
  exact ⟨rfl, own1, ⟨f', v', h', hj, (((Fr.refl _ own w).alloc _).drew).trans hf⟩⟩

set_option maxRecDepth 100000 in
set_option maxHeartbeats 800000 in
theorem bdrop_any (own : Nat → Nat) (tB tq b ty N o : Nat) (f : Nat → Value) (v : Value) (k k' : Bk) (fm : Fm) (fd : Bool) (w : World) (h : BkAt own w tB tq b ty N o f v k) (hj : Junk own w) (htB : tB ≠ 0) (htq : tq ≠ 0) (hk : Bx (k.drop = (fm, fd, k'))) :
    Calls Try.prog 54 #[.pointer (some ⟨b, o, none⟩)] w fun e w' => e = .returned (.tuple #[fm.val, .bool fd]) ∧ BkPost own own w w' tB tq b ty N o f k' := by
  have hT0 : ¬ ((0 : Nat) = tB ∨ (0 : Nat) = tq) := by omega
  have hW : BkAt own (w.alloc (Obj.cells #[.int .i64 0, .string ⟨#[]⟩, .int .i64 0] 98)) tB tq b ty N o f v k := h.below (((Below.refl _ _).alloc (Nat.le_refl _) _))
  have hQ := qleave_any own tB tq b ty N o f v k _ hW
  rw [hk.out] at hQ
  have HQ : Bx _ := ⟨hQ⟩
  have hblt := h.row.row.lt
  clear h hW hk hQ
  simp only [Fm.val] at *
  go_enter Try.func54, Try.ntmps54
  go_wp2_with fail
  refine HQ.out.mono ?_
  rintro e w1 ⟨rfl, f1, v1, h1, hj1, hf1⟩
  have hs1 := hf1.size
  simp at hs1
  have h00 := hj w.heap.size (Nat.le_refl _)
  obtain ⟨k0, kz0⟩ := Fr.cell0 hf1 (b := w.heap.size) (by simp) h00 hT0
  have r0 : w1.cell? ⟨w.heap.size, 0, none⟩ = some (.int .i64 0) := (k0 0).trans (by go_simp)
  have r1 : w1.cell? ⟨w.heap.size, 1, none⟩ = some (.string ⟨#[]⟩) := (k0 1).trans (by go_simp)
  have r2 : w1.cell? ⟨w.heap.size, 2, none⟩ = some (.int .i64 0) := (k0 2).trans (by go_simp)
  have rz : ∀ i, w1.frozen? ⟨w.heap.size, i, none⟩ = false := fun i => (kz0 i).trans (by go_simp)
  have H1 : Bx _ := ⟨h1⟩
  have HF : Bx (Fr (fun t => t = tB ∨ t = tq) own own w w1) := ⟨((Fr.refl _ own w).alloc _).trans hf1⟩
  have H00 : Bx _ := ⟨h00⟩
  clear k0 kz0 h1 hf1 h00 hj HQ
  go_wp2_with fail
  refine bodyPost_ret (v := .tuple #[.agg #[.int .i64 fm.id, .string fm.s, .int .i64 fm.since], .bool fd]) (by simp [results, Try.results54, go_sem, r0, r1, r2]) rfl ⟨rfl, ⟨f1, v1, ?_, hj1, ?_⟩⟩
  · exact H1.out.fr ((((Fr.refl (fun t => t = 0) own _).setCell w.heap.size _ _ H00.out).setCell w.heap.size _ _ H00.out).setCell w.heap.size _ _ H00.out) htB htq
  · exact ((HF.out.setNew w.heap.size _ _ (Nat.le_refl _)).setNew w.heap.size _ _ (Nat.le_refl _)).setNew w.heap.size _ _ (Nat.le_refl _)

end Go.Proofs.Ytnkicbopebgppaa

namespace Go.Proofs.Ytnkicbopebgppaa
open Go.RowKit Fl

/-- As many are dropped as are due by now, or one is marked: the bucket, those that were dropped, the frame, whether there is one, whether it was marked. -/
def goOnTo (c : Cf) (now : Nat) : Nat → Bk → List Fm → Fm → Bool → Bk × List Fm × Fm × Bool × Bool
  | 0, k, d, f, fd => (k, d, f, fd, false)
  | n + 1, k, d, f, fd =>
    if k.dropping = true ∧ k.next ≤ now then
      if marksB c f = true then ({ k with count := k.count + 1, next := k.next + stepOf c.interval (k.count + 1) }, d, f.mark, fd, true)
      else match ({ k with count := k.count + 1 } : Bk).take c now with
        | (f2, fd2, true, k2) => goOnTo c now n { k2 with next := k2.next + stepOf c.interval k2.count } (d ++ [f]) f2 fd2
        | (f2, fd2, false, k2) => goOnTo c now n { k2 with dropping := false } (d ++ [f]) f2 fd2
    else (k, d, f, fd, false)

theorem goOnTo_stop (c : Cf) (now n : Nat) (k : Bk) (d : List Fm) (f : Fm) (fd : Bool) (h : ¬ (k.dropping = true ∧ k.next ≤ now)) : goOnTo c now n k d f fd = (k, d, f, fd, false) := by
  cases n
  · rfl
  · rw [goOnTo, if_neg h]

theorem goOnTo_mark (c : Cf) (now n : Nat) (k : Bk) (d : List Fm) (f : Fm) (fd : Bool) (h : k.dropping = true ∧ k.next ≤ now) (hm : marksB c f = true) : goOnTo c now (n + 1) k d f fd = ({ k with count := k.count + 1, next := k.next + stepOf c.interval (k.count + 1) }, d, f.mark, fd, true) := by
  rw [goOnTo, if_pos h, if_pos hm]

theorem goOnTo_late (c : Cf) (now n : Nat) (k k2 : Bk) (d : List Fm) (f f2 : Fm) (fd fd2 : Bool) (h : k.dropping = true ∧ k.next ≤ now) (hm : ¬ marksB c f = true) (ht : ({ k with count := k.count + 1 } : Bk).take c now = (f2, fd2, true, k2)) :
    goOnTo c now (n + 1) k d f fd = goOnTo c now n { k2 with next := k2.next + stepOf c.interval k2.count } (d ++ [f]) f2 fd2 := by
  rw [goOnTo, if_pos h, if_neg hm, ht]

theorem goOnTo_calm (c : Cf) (now n : Nat) (k k2 : Bk) (d : List Fm) (f f2 : Fm) (fd fd2 : Bool) (h : k.dropping = true ∧ k.next ≤ now) (hm : ¬ marksB c f = true) (ht : ({ k with count := k.count + 1 } : Bk).take c now = (f2, fd2, false, k2)) :
    goOnTo c now (n + 1) k d f fd = goOnTo c now n { k2 with dropping := false } (d ++ [f]) f2 fd2 := by
  rw [goOnTo, if_pos h, if_neg hm, ht]

/-- Where goOn stands: the boxes, the bucket, the list of those that were dropped. -/
structure GoRel (own own1 : Nat → Nat) (w wr : World) (tB tq td b ty N o : Nat) (f0 : Nat → Value) (k : Bk) (d : List Fm) (f : Fm) (fd : Bool) : Prop where
  ex : ∃ f' v' dx dc, BkAt own1 wr tB tq b ty N o f' v' k ∧ (∀ j, j < o ∨ o + 8 ≤ j → f' j = f0 j) ∧ Fr (fun t => t = tB ∨ t = tq ∨ t = td) own own1 w wr ∧ Sl anyG own1 wr td 3 (.slice dx d.length dc) d.length (fmCells d) ∧
    wr.cell? ⟨w.heap.size, 0, none⟩ = some (.slice dx d.length dc) ∧ wr.cell? ⟨w.heap.size, 1, none⟩ = some (.int .i64 f.id) ∧ wr.cell? ⟨w.heap.size, 2, none⟩ = some (.string f.s) ∧ wr.cell? ⟨w.heap.size, 3, none⟩ = some (.int .i64 f.since) ∧ wr.cell? ⟨w.heap.size, 4, none⟩ = some (.bool fd) ∧ wr.cell? ⟨w.heap.size, 5, none⟩ = some (.bool false)
  gz : ∀ i, wr.frozen? ⟨w.heap.size, i, none⟩ = false
  rz : ∀ i, wr.frozen? ⟨w.heap.size + 1 + 1, i, none⟩ = false
  size : w.heap.size + 3 ≤ wr.heap.size
  o1 : own1 w.heap.size = 0
  o2 : own1 (w.heap.size + 1) = 0
  o3 : own1 (w.heap.size + 1 + 1) = 0
  junk : Junk own1 wr

/-- The boxes of the configuration and of what is handed back. -/
structure GoBox (c : Cf) (w wr : World) : Prop where
  c : ∀ i, i < 10 → wr.cell? ⟨w.heap.size + 1, i, none⟩ = (match c.val with | .agg a => a[i]? | _ => none)
  r : ∀ i, i < 6 → ∃ u, wr.cell? ⟨w.heap.size + 1 + 1, i, none⟩ = some u

end Go.Proofs.Ytnkicbopebgppaa

namespace Go.Proofs.Ytnkicbopebgppaa
open Go.RowKit Fl

def anyC : Nat → Value → Prop := fun _ _ => True

/-- Whose turn it is. -/
structure Tn where
  fresh : List Nat
  old : List Nat
  listed : Nat → Bool
  deficit : Nat → Int

def natCells (l : List Nat) : List Value := l.map (fun (n : Nat) => Value.int .i64 (n : Int))

theorem natCells_length (l : List Nat) : (natCells l).length = l.length * 1 := by simp [natCells]
theorem natCells_snoc (l : List Nat) (n : Nat) : natCells (l ++ [n]) = natCells l ++ [.int .i64 n] := by simp [natCells]

/-- Where the turns lie: at offset o of a row. -/
structure TnAt (own : Nat → Nat) (w : World) (tP tF tO b ty N o : Nat) (f : Nat → Value) (vF vO : Value) (t : Tn) : Prop where
  row : Row own w tP b ty N f
  inn : o + 34 ≤ N
  c0 : f o = vF
  c1 : f (o + 1) = vO
  li : ∀ i, i < 16 → f (o + 2 + i) = .bool (t.listed i)
  de : ∀ i, i < 16 → f (o + 18 + i) = .int .i64 (t.deficit i)
  slF : Sl anyC own w tF 1 vF t.fresh.length (natCells t.fresh)
  slO : Sl anyC own w tO 1 vO t.old.length (natCells t.old)
  n1 : tF ≠ tP
  n2 : tO ≠ tP
  n3 : tF ≠ tO
  bF : ∀ x ∈ t.fresh, x < 16
  bO : ∀ x ∈ t.old, x < 16
  lF : t.fresh.length ≤ 1000
  lO : t.old.length ≤ 1000

theorem TnAt.fr {own own' : Nat → Nat} {w w' : World} {tP tF tO b ty N o : Nat} {f : Nat → Value} {vF vO : Value} {t : Tn} {T : Nat → Prop} (h : TnAt own w tP tF tO b ty N o f vF vO t) (k : Fr T own own' w w') (h1 : ¬ T tP) (h2 : ¬ T tF) (h3 : ¬ T tO) : TnAt own' w' tP tF tO b ty N o f vF vO t :=
  ⟨h.row.fr k h1, h.inn, h.c0, h.c1, h.li, h.de, h.slF.fr k h2, h.slO.fr k h3, h.n1, h.n2, h.n3, h.bF, h.bO, h.lF, h.lO⟩

theorem Sl.head {own : Nat → Nat} {w : World} {t : Nat} {v : Value} {x : Nat} {l : List Nat} (h : Sl anyC own w t 1 v (x :: l).length (natCells (x :: l))) :
    ∃ g off cap, v = .slice (some ⟨g, off, none⟩) (l.length + 1) cap ∧ l.length + 1 ≤ cap ∧ w.cell? ⟨g, off, none⟩ = some (.int .i64 x) := by
  obtain ⟨_, h2⟩ := h
  rcases h2 with ⟨_, hb⟩ | ⟨g, off, cap, hv, _, _, hn, _, hc, _⟩
  · simp at hb
  · exact ⟨g, off, cap, by simpa using hv, by simpa using hn, by simpa using hc 0 (.int .i64 x) rfl⟩

theorem Sl.nilShape {own : Nat → Nat} {w : World} {t : Nat} {v : Value} {xs : List Value} (h : Sl anyC own w t 1 v 0 xs) : ∃ a cap, v = .slice a 0 cap := by
  obtain ⟨_, h2⟩ := h
  rcases h2 with ⟨hv, _⟩ | ⟨g, off, cap, hv, _⟩
  · exact ⟨none, 0, hv⟩
  · exact ⟨some ⟨g, off, none⟩, cap, hv⟩

/-- The first of both lists. -/
def Tn.first (t : Tn) : Nat × Bool :=
  match t.fresh, t.old with
  | x :: _, _ => (x, true)
  | [], x :: _ => (x, true)
  | [], [] => (0, false)

/-- The first leaves its list. -/
def Tn.leaveList (t : Tn) : Tn :=
  match t.fresh, t.old with
  | _ :: l, _ => { t with fresh := l }
  | [], _ :: l => { t with old := l }
  | [], [] => t

set_option maxHeartbeats 800000 in
theorem first_any (own : Nat → Nat) (tP tF tO b ty N o : Nat) (f : Nat → Value) (vF vO : Value) (t : Tn) (w : World) (h : TnAt own w tP tF tO b ty N o f vF vO t) :
    Calls Try.prog 76 #[.pointer (some ⟨b, o, none⟩)] w fun e w' => e = .returned (.tuple #[.int .i64 (t.first.1 : Nat), .bool t.first.2]) ∧ w' = w := by
  have hin := h.inn
  have d0 : w.cell? ⟨b, o, none⟩ = some vF := (h.row.row.cell (by omega)).trans (by rw [h.c0])
  have d1 : w.cell? ⟨b, o + 1, none⟩ = some vO := (h.row.row.cell (by omega)).trans (by rw [h.c1])
  have hF := h.slF
  have hO := h.slO
  have l1 := h.lF
  have l2 := h.lO
  unfold Tn.first
  rcases hfr : t.fresh with _ | ⟨x, l⟩
  · rw [hfr] at hF
    obtain ⟨a, cap, rfl⟩ := Sl.nilShape hF
    rcases hol : t.old with _ | ⟨y, l⟩
    · rw [hol] at hO
      obtain ⟨a', cap', rfl⟩ := Sl.nilShape hO
      clear h hF hO hfr hol
      go_enter Try.func76, Try.ntmps76
      go_wp2
      go_ret2
      exact ⟨rfl, rfl⟩
    · rw [hol] at hO l2
      obtain ⟨g, off, cap', rfl, hc, hx⟩ := Sl.head hO
      simp only [List.length_cons] at l2
      clear h hF hO hfr hol
      go_enter Try.func76, Try.ntmps76
      go_wp2
      go_ret2
      exact ⟨rfl, rfl⟩
  · rw [hfr] at hF l1
    obtain ⟨g, off, cap', rfl, hc, hx⟩ := Sl.head hF
    simp only [List.length_cons] at l1
    clear h hF hO hfr
    go_enter Try.func76, Try.ntmps76
    go_wp2
    go_ret2
    exact ⟨rfl, rfl⟩

/-- The slice without its first element. -/
theorem Sl.tail {own : Nat → Nat} {w : World} {t g off n cap x : Nat} {l : List Nat} (h : Sl anyC own w t 1 (.slice (some ⟨g, off, none⟩) n cap) (x :: l).length (natCells (x :: l))) :
    Sl anyC own w t 1 (.slice (some ⟨g, off + 1, none⟩) l.length (cap - 1)) l.length (natCells l) ∧ (cap = 1 → Sl anyC own w t 1 (.slice (some ⟨g, off, none⟩) l.length (cap - 1)) l.length (natCells l)) := by
  obtain ⟨_, h2⟩ := h
  rcases h2 with ⟨hv, _⟩ | ⟨g', off', cap', hv, ho, hg, hn, hm, hc, hr, hf⟩
  · cases hv
  · injection hv with e1 e2 e3
    injection e1 with e4
    injection e4 with e5 e6
    subst e5 e6 e3
    simp only [List.length_cons] at hn
    refine ⟨⟨natCells_length l, .inr ⟨g, off + 1, cap - 1, rfl, ho, hg, by omega, by omega, ?_, ?_, hf⟩⟩, fun hcap => ⟨natCells_length l, .inr ⟨g, off, cap - 1, rfl, ho, hg, by omega, by omega, ?_, ?_, hf⟩⟩⟩
    · intro j u hj
      have := hc (j + 1) u (by simpa [natCells] using hj)
      rwa [show off + 1 + j = off + (j + 1) by omega]
    · intro j hj
      obtain ⟨u, hu, hG⟩ := hr (j + 1) (by omega)
      exact ⟨u, by rwa [show off + 1 + j = off + (j + 1) by omega], trivial⟩
    · intro j u hj
      have hl : l = [] := by
        cases l with
        | nil => rfl
        | cons a l => simp at hn; omega
      subst hl
      simp [natCells] at hj
    · intro j hj
      omega

/-- What becomes of the turns, and of all else. -/
structure TnPost (own own' : Nat → Nat) (w w' : World) (tP tF tO b ty N o : Nat) (f : Nat → Value) (t' : Tn) : Prop where
  ex : ∃ f' vF' vO', TnAt own' w' tP tF tO b ty N o f' vF' vO' t' ∧ (∀ j, j < o ∨ o + 34 ≤ j → f' j = f j) ∧ Fr (fun x => x = tP ∨ x = tF ∨ x = tO) own own' w w'

section
variable {own : Nat → Nat} {w : World} {tP tF tO b ty N o : Nat} {f : Nat → Value} {vF vO : Value} {t : Tn}

theorem TnAt.stay (h : TnAt own w tP tF tO b ty N o f vF vO t) (i : Nat) (u : Value) : Fr (fun x => x = tP) own own w (w.setCell ⟨b, i, none⟩ u) := (Fr.refl _ _ _).setCell _ _ _ h.row.tag

theorem TnAt.setFresh (h : TnAt own w tP tF tO b ty N o f vF vO t) (v : Value) (l : List Nat) (hs : Sl anyC own w tF 1 v l.length (natCells l)) (hb : ∀ x ∈ l, x < 16) (hl : l.length ≤ 1000) :
    ∃ f', TnAt own (w.setCell ⟨b, o, none⟩ v) tP tF tO b ty N o f' v vO { t with fresh := l } ∧ (∀ j, j < o ∨ o + 34 ≤ j → f' j = f j) := by
  have hin := h.inn
  refine ⟨fun j => if j = o then v else f j, ⟨h.row.set _ _, h.inn, by simp, ?_, ?_, ?_, hs.fr (h.stay _ _) h.n1, h.slO.fr (h.stay _ _) h.n2, h.n1, h.n2, h.n3, hb, h.bO, hl, h.lO⟩, ?_⟩
  · show (if o + 1 = o then v else f (o + 1)) = vO; rw [if_neg (by omega)]; exact h.c1
  · intro i hi; show (if o + 2 + i = o then v else f (o + 2 + i)) = _; rw [if_neg (by omega)]; exact h.li i hi
  · intro i hi; show (if o + 18 + i = o then v else f (o + 18 + i)) = _; rw [if_neg (by omega)]; exact h.de i hi
  · intro j hj; show (if j = o then v else f j) = _; rw [if_neg (by omega)]

theorem TnAt.setOld (h : TnAt own w tP tF tO b ty N o f vF vO t) (v : Value) (l : List Nat) (hs : Sl anyC own w tO 1 v l.length (natCells l)) (hb : ∀ x ∈ l, x < 16) (hl : l.length ≤ 1000) :
    ∃ f', TnAt own (w.setCell ⟨b, o + 1, none⟩ v) tP tF tO b ty N o f' vF v { t with old := l } ∧ (∀ j, j < o ∨ o + 34 ≤ j → f' j = f j) := by
  have hin := h.inn
  refine ⟨fun j => if j = o + 1 then v else f j, ⟨h.row.set _ _, h.inn, ?_, by simp, ?_, ?_, h.slF.fr (h.stay _ _) h.n1, hs.fr (h.stay _ _) h.n2, h.n1, h.n2, h.n3, h.bF, hb, h.lF, hl⟩, ?_⟩
  · show (if o = o + 1 then v else f o) = vF; rw [if_neg (by omega)]; exact h.c0
  · intro i hi; show (if o + 2 + i = o + 1 then v else f (o + 2 + i)) = _; rw [if_neg (by omega)]; exact h.li i hi
  · intro i hi; show (if o + 18 + i = o + 1 then v else f (o + 18 + i)) = _; rw [if_neg (by omega)]; exact h.de i hi
  · intro j hj; show (if j = o + 1 then v else f j) = _; rw [if_neg (by omega)]

theorem TnAt.setListed (h : TnAt own w tP tF tO b ty N o f vF vO t) (k : Nat) (hk : k < 16) (x : Bool) :
    ∃ f', TnAt own (w.setCell ⟨b, o + 2 + k, none⟩ (.bool x)) tP tF tO b ty N o f' vF vO { t with listed := fun i => if i = k then x else t.listed i } ∧ (∀ j, j < o ∨ o + 34 ≤ j → f' j = f j) := by
  have hin := h.inn
  refine ⟨fun j => if j = o + 2 + k then .bool x else f j, ⟨h.row.set _ _, h.inn, ?_, ?_, ?_, ?_, h.slF.fr (h.stay _ _) h.n1, h.slO.fr (h.stay _ _) h.n2, h.n1, h.n2, h.n3, h.bF, h.bO, h.lF, h.lO⟩, ?_⟩
  · show (if o = o + 2 + k then _ else f o) = vF; rw [if_neg (by omega)]; exact h.c0
  · show (if o + 1 = o + 2 + k then _ else f (o + 1)) = vO; rw [if_neg (by omega)]; exact h.c1
  · intro i hi
    show (if o + 2 + i = o + 2 + k then Value.bool x else f (o + 2 + i)) = .bool (if i = k then x else t.listed i)
    by_cases e : i = k
    · rw [if_pos (by omega), if_pos e]
    · rw [if_neg (by omega), if_neg e]; exact h.li i hi
  · intro i hi; show (if o + 18 + i = o + 2 + k then _ else f (o + 18 + i)) = _; rw [if_neg (by omega)]; exact h.de i hi
  · intro j hj; show (if j = o + 2 + k then _ else f j) = _; rw [if_neg (by omega)]

theorem TnAt.setDeficit (h : TnAt own w tP tF tO b ty N o f vF vO t) (k : Nat) (hk : k < 16) (x : Int) :
    ∃ f', TnAt own (w.setCell ⟨b, o + 18 + k, none⟩ (.int .i64 x)) tP tF tO b ty N o f' vF vO { t with deficit := fun i => if i = k then x else t.deficit i } ∧ (∀ j, j < o ∨ o + 34 ≤ j → f' j = f j) := by
  have hin := h.inn
  refine ⟨fun j => if j = o + 18 + k then .int .i64 x else f j, ⟨h.row.set _ _, h.inn, ?_, ?_, ?_, ?_, h.slF.fr (h.stay _ _) h.n1, h.slO.fr (h.stay _ _) h.n2, h.n1, h.n2, h.n3, h.bF, h.bO, h.lF, h.lO⟩, ?_⟩
  · show (if o = o + 18 + k then _ else f o) = vF; rw [if_neg (by omega)]; exact h.c0
  · show (if o + 1 = o + 18 + k then _ else f (o + 1)) = vO; rw [if_neg (by omega)]; exact h.c1
  · intro i hi; show (if o + 2 + i = o + 18 + k then _ else f (o + 2 + i)) = _; rw [if_neg (by omega)]; exact h.li i hi
  · intro i hi
    show (if o + 18 + i = o + 18 + k then Value.int .i64 x else f (o + 18 + i)) = .int .i64 (if i = k then x else t.deficit i)
    by_cases e : i = k
    · rw [if_pos (by omega), if_pos e]
    · rw [if_neg (by omega), if_neg e]; exact h.de i hi
  · intro j hj; show (if j = o + 18 + k then _ else f j) = _; rw [if_neg (by omega)]

end

set_option maxHeartbeats 800000 in
theorem leaveList_any (own : Nat → Nat) (tP tF tO b ty N o : Nat) (f : Nat → Value) (vF vO : Value) (t : Tn) (w : World) (h : TnAt own w tP tF tO b ty N o f vF vO t) :
    Calls Try.prog 77 #[.pointer (some ⟨b, o, none⟩)] w fun e w' => e = .returned (.tuple #[]) ∧ TnPost own own w w' tP tF tO b ty N o f t.leaveList := by
  have hin := h.inn
  have d0 : w.cell? ⟨b, o, none⟩ = some vF := (h.row.row.cell (by omega)).trans (by rw [h.c0])
  have d1 : w.cell? ⟨b, o + 1, none⟩ = some vO := (h.row.row.cell (by omega)).trans (by rw [h.c1])
  have dz := h.row.row.frozen
  have hF := h.slF
  have hO := h.slO
  have l1 := h.lF
  have l2 := h.lO
  rcases hfr : t.fresh with _ | ⟨x, l⟩
  · rw [hfr] at hF
    obtain ⟨a, cap, rfl⟩ := Sl.nilShape hF
    rcases hol : t.old with _ | ⟨y, l⟩
    · rw [hol] at hO
      obtain ⟨a', cap', rfl⟩ := Sl.nilShape hO
      have ht : t.leaveList = t := by unfold Tn.leaveList; rw [hfr, hol]
      rw [ht]
      have H : Bx _ := ⟨h⟩
      clear h hF hO hfr hol ht
      go_enter Try.func77, Try.ntmps77
      go_wp2
      go_end0
      exact ⟨rfl, ⟨f, _, _, H.out, fun _ _ => rfl, Fr.refl _ _ _⟩⟩
    · have hbl : ∀ x ∈ l, x < 16 := fun x hx => h.bO x (by rw [hol]; simp [hx])
      rw [hol] at hO l2
      obtain ⟨g, off, cap', rfl, hc, hx⟩ := Sl.head hO
      simp only [List.length_cons] at l2
      have ht : t.leaveList = { t with old := l } := by unfold Tn.leaveList; rw [hfr, hol]
      rw [ht]
      have H : Bx _ := ⟨h⟩
      have HO : Bx _ := ⟨hO⟩
      have HB : Bx _ := ⟨hbl⟩
      clear h hF hO hfr hol ht hbl
      by_cases hcap : cap' = 1
      · subst hcap
        obtain rfl : l = [] := List.eq_nil_of_length_eq_zero (by omega)
        have HS : Bx (Sl anyC own w tO 1 (.slice (some ⟨g, off, none⟩) 0 0) 0 (natCells [])) := ⟨(Sl.tail HO.out).2 rfl⟩
        simp only [List.length_nil] at d1
        go_enter Try.func77, Try.ntmps77
        go_wp2
        go_end0
        obtain ⟨f', h', hj⟩ := H.out.setOld _ [] HS.out HB.out (by simp)
        exact ⟨rfl, ⟨f', _, _, h', hj, (H.out.stay _ _).mono (fun _ e => .inl e)⟩⟩
      · go_enter Try.func77, Try.ntmps77
        go_wp2
        go_end0
        obtain ⟨f', h', hj⟩ := H.out.setOld _ l (Sl.tail HO.out).1 HB.out (by omega)
        exact ⟨rfl, ⟨f', _, _, h', hj, (H.out.stay _ _).mono (fun _ e => .inl e)⟩⟩
  · have hbl : ∀ y ∈ l, y < 16 := fun y hy => h.bF y (by rw [hfr]; simp [hy])
    rw [hfr] at hF l1
    obtain ⟨g, off, cap', rfl, hc, hx⟩ := Sl.head hF
    simp only [List.length_cons] at l1
    have ht : t.leaveList = { t with fresh := l } := by unfold Tn.leaveList; rw [hfr]
    rw [ht]
    have H : Bx _ := ⟨h⟩
    have HO : Bx _ := ⟨hF⟩
    have HB : Bx _ := ⟨hbl⟩
    clear h hF hO hfr ht hbl
    by_cases hcap : cap' = 1
    · subst hcap
      obtain rfl : l = [] := List.eq_nil_of_length_eq_zero (by omega)
      have HS : Bx (Sl anyC own w tF 1 (.slice (some ⟨g, off, none⟩) 0 0) 0 (natCells [])) := ⟨(Sl.tail HO.out).2 rfl⟩
      simp only [List.length_nil] at d0
      go_enter Try.func77, Try.ntmps77
      go_wp2
      obtain ⟨f', h', hj⟩ := H.out.setFresh _ [] HS.out HB.out (by simp)
      exact bodyPost_ret (v := .tuple #[]) (by simp [results, Try.results77, go_sem]) rfl ⟨rfl, ⟨f', _, _, h', hj, (H.out.stay _ _).mono (fun _ e => .inl e)⟩⟩
    · go_enter Try.func77, Try.ntmps77
      go_wp2
      obtain ⟨f', h', hj⟩ := H.out.setFresh _ l (Sl.tail HO.out).1 HB.out (by omega)
      exact bodyPost_ret (v := .tuple #[]) (by simp [results, Try.results77, go_sem]) rfl ⟨rfl, ⟨f', _, _, h', hj, (H.out.stay _ _).mono (fun _ e => .inl e)⟩⟩

end Go.Proofs.Ytnkicbopebgppaa

namespace Go.Proofs.Ytnkicbopebgppaa
open Go.RowKit Fl

theorem infoInt : (Try.prog.info? 3).map (fun i => (i.zero, i.size, i.bytes)) = some (some (.int .i64 0), 1, 8) := by kernel_rfl

theorem cells1 {w : World} {b : Nat} {x : Value} (h0 : w.cell? ⟨b, 0, none⟩ = some x) : ∀ j u, [x][j]? = some u → w.cell? ((⟨b, 0, none⟩ : Addr).add j) = some u := by
  intro j u hj
  match j, hj with
  | 0, hj => simp at hj; subst hj; simpa [Addr.add] using h0

theorem one_int (k : Nat) : ∀ u ∈ [Value.int .i64 (k : Int)], u.oneCell' = true := by intro u hu; simp at hu; subst hu; rfl

section
variable {own own' : Nat → Nat} {w w' : World} {tP tF tO b ty N o : Nat} {f : Nat → Value} {vF vO : Value} {t : Tn}

/-- The new list has grown. -/
theorem TnAt.appF (h : TnAt own w tP tF tO b ty N o f vF vO t) (k : Fr (fun x => x = tF) own own' w w') (v : Value) (l : List Nat) (hs : Sl anyC own' w' tF 1 v l.length (natCells l)) (hb : ∀ x ∈ l, x < 16) (hl : l.length ≤ 1000) :
    ∃ f', TnAt own' (w'.setCell ⟨b, o, none⟩ v) tP tF tO b ty N o f' v vO { t with fresh := l } ∧ (∀ j, j < o ∨ o + 34 ≤ j → f' j = f j) := by
  have hin := h.inn
  have hrow := h.row.fr k (fun e => h.n1 e.symm)
  have st : Fr (fun x => x = tP) own' own' w' (w'.setCell ⟨b, o, none⟩ v) := (Fr.refl _ _ _).setCell _ _ _ hrow.tag
  refine ⟨fun j => if j = o then v else f j, ⟨hrow.set _ _, h.inn, by simp, ?_, ?_, ?_, hs.fr st h.n1, (h.slO.fr k (fun e => h.n3 e.symm)).fr st h.n2, h.n1, h.n2, h.n3, hb, h.bO, hl, h.lO⟩, ?_⟩
  · show (if o + 1 = o then v else f (o + 1)) = vO; rw [if_neg (by omega)]; exact h.c1
  · intro i hi; show (if o + 2 + i = o then v else f (o + 2 + i)) = _; rw [if_neg (by omega)]; exact h.li i hi
  · intro i hi; show (if o + 18 + i = o then v else f (o + 18 + i)) = _; rw [if_neg (by omega)]; exact h.de i hi
  · intro j hj; show (if j = o then v else f j) = _; rw [if_neg (by omega)]

/-- The old list has grown. -/
theorem TnAt.appO (h : TnAt own w tP tF tO b ty N o f vF vO t) (k : Fr (fun x => x = tO) own own' w w') (v : Value) (l : List Nat) (hs : Sl anyC own' w' tO 1 v l.length (natCells l)) (hb : ∀ x ∈ l, x < 16) (hl : l.length ≤ 1000) :
    ∃ f', TnAt own' (w'.setCell ⟨b, o + 1, none⟩ v) tP tF tO b ty N o f' vF v { t with old := l } ∧ (∀ j, j < o ∨ o + 34 ≤ j → f' j = f j) := by
  have hin := h.inn
  have hrow := h.row.fr k (fun e => h.n2 e.symm)
  have st : Fr (fun x => x = tP) own' own' w' (w'.setCell ⟨b, o + 1, none⟩ v) := (Fr.refl _ _ _).setCell _ _ _ hrow.tag
  refine ⟨fun j => if j = o + 1 then v else f j, ⟨hrow.set _ _, h.inn, ?_, by simp, ?_, ?_, (h.slF.fr k h.n3).fr st h.n1, hs.fr st h.n2, h.n1, h.n2, h.n3, h.bF, hb, h.lF, hl⟩, ?_⟩
  · show (if o = o + 1 then v else f o) = vF; rw [if_neg (by omega)]; exact h.c0
  · intro i hi; show (if o + 2 + i = o + 1 then v else f (o + 2 + i)) = _; rw [if_neg (by omega)]; exact h.li i hi
  · intro i hi; show (if o + 18 + i = o + 1 then v else f (o + 18 + i)) = _; rw [if_neg (by omega)]; exact h.de i hi
  · intro j hj; show (if j = o + 1 then v else f j) = _; rw [if_neg (by omega)]

theorem TnAt.below {w' : World} (h : TnAt own w tP tF tO b ty N o f vF vO t) (k : Below w.heap.size w w') : TnAt own w' tP tF tO b ty N o f vF vO t :=
  h.fr (T := fun _ => False) (Fr.below k) id id id

end

/-- A bucket enters the new list. -/
def Tn.enter (t : Tn) (k q : Nat) : Tn :=
  if t.listed k then t else { fresh := t.fresh ++ [k], old := t.old, listed := fun i => if i = k then true else t.listed i, deficit := fun i => if i = k then (q : Int) else t.deficit i }

set_option maxRecDepth 100000 in
set_option maxHeartbeats 1600000 in
theorem enter_any (own : Nat → Nat) (tP tF tO b ty N o k q : Nat) (f : Nat → Value) (vF vO : Value) (t t' : Tn) (w : World) (h : TnAt own w tP tF tO b ty N o f vF vO t) (hk : k < 16) (hl : t.fresh.length ≤ 900) (ht' : Bx (t.enter k q = t')) :
    Calls Try.prog 48 #[.pointer (some ⟨b, o, none⟩), .int .i64 k, .int .i64 q] w fun e w' => e = .returned (.tuple #[]) ∧ ∃ own', TnPost own own' w w' tP tF tO b ty N o f t' := by
  obtain ⟨i0, hi, hz0, hz1, hz2⟩ := info_parts infoInt
  have hin := h.inn
  have hblt := h.row.row.lt
  have d0 : w.cell? ⟨b, o, none⟩ = some vF := (h.row.row.cell (by omega)).trans (by rw [h.c0])
  have d2 : w.cell? ⟨b, o + 2 + k, none⟩ = some (.bool (t.listed k)) := (h.row.row.cell (by omega)).trans (by rw [h.li k hk])
  have d3 : w.cell? ⟨b, o + 18 + k, none⟩ = some (.int .i64 (t.deficit k)) := (h.row.row.cell (by omega)).trans (by rw [h.de k hk])
  have dz := h.row.row.frozen
  cases hli : t.listed k
  · have ht : t.enter k q = { fresh := t.fresh ++ [k], old := t.old, listed := fun i => if i = k then true else t.listed i, deficit := fun i => if i = k then (q : Int) else t.deficit i } := by unfold Tn.enter; rw [hli]; rfl
    rw [hli] at d2
    rw [ht'.out] at ht
    have HT : Bx _ := ⟨ht⟩
    obtain ⟨f1, h1, hj1⟩ := h.setListed k hk true
    obtain ⟨f2, h2, hj2⟩ := h1.setDeficit k hk (q : Int)
    have hst : Fr (fun x => x = tP) own own w _ := (h.stay (o + 2 + k) (.bool true)).trans (h1.stay (o + 18 + k) (.int .i64 (q : Int)))
    have hsl := h2.slF
    have H2 : Bx _ := ⟨h2⟩
    have HS : Bx _ := ⟨hst⟩
    have HL : Bx _ := ⟨hsl⟩
    have hn0 : ¬ w.heap.size = b := by omega
    have hn0' : ¬ b = w.heap.size := by omega
    have HBF : Bx _ := ⟨h.bF⟩
    clear h h1 h2 hst hsl ht hli ht'
    go_enter Try.func48, Try.ntmps48
    go_wp2_with (at_builtin; refine wpList_append_sl _ rfl _ _ 34 rfl 3 i0 _ 1 8 Try.underlying34 hi hz0 hz1 hz2 rfl (by decide) anyC own tF vF t.fresh.length (natCells t.fresh) rfl (HL.out.below ((Below.refl _ _).alloc (Nat.le_refl _) _)) ⟨w.heap.size, 0, none⟩ 1 1 [.int .i64 (k : Int)] rfl rfl (cells1 (by go_simp)) (one_int k) (fun _ _ _ => trivial) (fun _ _ _ => trivial) (by decide) (by unfold maxLen; omega) (by omega) ?_)
    intro v' w2 own2 hsl2 hfr2 db dk hv2
    subst hv2
    have h3 := H2.out.below ((Below.refl _ _).alloc (Nat.le_refl _) (Obj.cells #[Value.int IntKind.i64 (k : Int)] 3))
    have hrow := h3.row.fr hfr2 (fun e => h3.n1 e.symm)
    have e0 : w2.cell? ⟨b, o, none⟩ = some vF := (hrow.row.cell (by omega)).trans (by rw [h3.c0])
    have ez := hrow.row.frozen
    obtain ⟨f3, h4, hj3⟩ := h3.appF hfr2 (.slice (some db) (t.fresh.length + 1) dk) (t.fresh ++ [k]) (by rw [natCells_snoc, List.length_append]; exact hsl2) (fun x hx => by simp at hx; rcases hx with hx | rfl; exact HBF.out x hx; exact hk) (by simp; omega)
    rw [show ({ fresh := t.fresh ++ [k], old := t.old, listed := fun i => if i = k then true else t.listed i, deficit := fun i => if i = k then (q : Int) else t.deficit i } : Tn) = t' from HT.out.symm] at h4
    have hfr3 : Fr (fun x => x = tP ∨ x = tF ∨ x = tO) own own2 w (w2.setCell ⟨b, o, none⟩ (.slice (some db) (t.fresh.length + 1) dk)) := (((HS.out.mono (fun _ e => .inl e)).alloc _).trans (hfr2.mono (fun _ e => .inr (.inl e)))).setCell b o _ (.inl hrow.tag)
    have H4 : Bx _ := ⟨h4⟩
    have HF : Bx _ := ⟨hfr3⟩
    clear h3 hrow h4 hfr3 hsl2 hfr2
    go_wp2_with fail
    go_end0
    exact ⟨rfl, own2, ⟨f3, _, _, H4.out, fun j hj => (hj3 j hj).trans ((hj2 j hj).trans (hj1 j hj)), HF.out⟩⟩
  · have ht : t.enter k q = t := by unfold Tn.enter; rw [hli]; rfl
    rw [hli] at d2
    rw [ht'.out] at ht
    subst ht
    have H : Bx _ := ⟨h⟩
    clear h hli ht'
    go_enter Try.func48, Try.ntmps48
    go_wp2
    exact bodyPost_ret (v := .tuple #[]) (by simp [results, Try.results48, go_sem]) rfl ⟨rfl, own, ⟨f, _, _, H.out, fun _ _ => rfl, Fr.refl _ _ _⟩⟩

end Go.Proofs.Ytnkicbopebgppaa

namespace Go.Proofs.Ytnkicbopebgppaa
open Go.RowKit Fl

def Tn.pay (t : Tn) (k n : Nat) : Tn := { t with deficit := fun i => if i = k then t.deficit k - n else t.deficit i }

set_option maxRecDepth 100000 in
set_option maxHeartbeats 800000 in
theorem pay_any (own : Nat → Nat) (tP tF tO b ty N o k n : Nat) (f : Nat → Value) (vF vO : Value) (t t' : Tn) (w : World) (h : TnAt own w tP tF tO b ty N o f vF vO t) (hk : k < 16) (hn : n ≤ 1000) (hd1 : -1000000 ≤ t.deficit k) (hd2 : t.deficit k ≤ 1000000) (ht' : Bx (t.pay k n = t')) :
    Calls Try.prog 64 #[.pointer (some ⟨b, o, none⟩), .int .i64 k, .int .i64 n] w fun e w' => e = .returned (.tuple #[]) ∧ TnPost own own w w' tP tF tO b ty N o f t' := by
  have hin := h.inn
  have d3 : w.cell? ⟨b, o + 18 + k, none⟩ = some (.int .i64 (t.deficit k)) := (h.row.row.cell (by omega)).trans (by rw [h.de k hk])
  have dz := h.row.row.frozen
  obtain ⟨f1, h1, hj1⟩ := h.setDeficit k hk (t.deficit k - n)
  have e1 : ({ t with deficit := fun i => if i = k then t.deficit k - n else t.deficit i } : Tn) = t' := ht'.out
  rw [e1] at h1
  have H1 : Bx _ := ⟨h1⟩
  have HS : Bx _ := ⟨h.stay (o + 18 + k) (.int .i64 (t.deficit k - n))⟩
  clear h h1 e1 ht'
  generalize t.deficit k = d at *
  go_enter Try.func64, Try.ntmps64
  go_wp2_with fail
  go_region
  go_wp2_with fail
  go_end0
  exact ⟨rfl, ⟨f1, vF, vO, H1.out.fr (T := fun _ => False) ((Fr.refl _ _ _).drew) id id id, hj1, (HS.out.mono (fun _ e => .inl e)).drew⟩⟩

/-- The first i deficits are limited. -/
def Tn.limitTo (t : Tn) (q i : Nat) : Tn := { t with deficit := fun j => if j < i ∧ (q : Int) < t.deficit j then (q : Int) else t.deficit j }

theorem Tn.limitTo_zero (t : Tn) (q : Nat) : t.limitTo q 0 = t := by
  unfold Tn.limitTo
  cases t
  simp

theorem Tn.limitTo_at (t : Tn) (q i : Nat) : (t.limitTo q i).deficit i = t.deficit i := by simp [Tn.limitTo]

theorem Tn.limitTo_yes (t : Tn) (q i : Nat) (h : (q : Int) < t.deficit i) : ({ t.limitTo q i with deficit := fun j => if j = i then (q : Int) else (t.limitTo q i).deficit j } : Tn) = t.limitTo q (i + 1) := by
  unfold Tn.limitTo
  simp only [Tn.mk.injEq, true_and]
  funext j
  by_cases e : j = i
  · subst e; simp [h]
  · by_cases l : j < i
    · simp [e, l, show j < i + 1 by omega]
    · simp [e, l, show ¬ j < i + 1 by omega]

theorem Tn.limitTo_no (t : Tn) (q i : Nat) (h : ¬ (q : Int) < t.deficit i) : t.limitTo q i = t.limitTo q (i + 1) := by
  unfold Tn.limitTo
  simp only [Tn.mk.injEq, true_and]
  funext j
  by_cases e : j = i
  · subst e; simp [h]
  · by_cases l : j < i
    · simp [l, show j < i + 1 by omega]
    · simp [l, show ¬ j < i + 1 by omega]

set_option maxRecDepth 100000 in
set_option maxHeartbeats 800000 in
theorem limit_any (own : Nat → Nat) (tP tF tO b ty N o q : Nat) (f : Nat → Value) (vF vO : Value) (t : Tn) (w : World) (h : TnAt own w tP tF tO b ty N o f vF vO t) :
    Calls Try.prog 51 #[.pointer (some ⟨b, o, none⟩), .int .i64 q] w fun e w' => e = .returned (.tuple #[]) ∧ TnPost own own w w' tP tF tO b ty N o f (t.limitTo q 16) := by
  have H : Bx _ := ⟨h⟩
  clear h
  go_enter Try.func51, Try.ntmps51
  go_wp2_with fail
  go_loopw [5] (fun vi wr => ∃ i : Nat, i ≤ 16 ∧ vi = .int .i64 i ∧ TnPost own own w wr tP tF tO b ty N o f (t.limitTo q i)) (fun vi _ => 16 - (intOf vi).toNat)
  case atStart => exact ⟨0, by omega, rfl, ⟨f, vF, vO, by rw [Tn.limitTo_zero]; exact H.out, fun _ _ => rfl, Fr.refl _ _ _⟩⟩
  case round =>
    obtain ⟨i, hi, rfl, hP⟩ := hrel
    by_cases hlt : i < 16
    · obtain ⟨f1, vF1, vO1, h1, hj1, hf1⟩ := hP.ex
      have hin := h1.inn
      have d3 : wr.cell? ⟨b, o + 18 + i, none⟩ = some (.int .i64 (t.deficit i)) := (h1.row.row.cell (by omega)).trans (by rw [h1.de i hlt, Tn.limitTo_at])
      have dz := h1.row.row.frozen
      by_cases hq : (q : Int) < t.deficit i
      · obtain ⟨f2, h2, hj2⟩ := h1.setDeficit i hlt (q : Int)
        rw [Tn.limitTo_yes t q i hq] at h2
        have hf2 := hf1.setCell b (o + 18 + i) (.int .i64 (q : Int)) (.inl h1.row.tag)
        have HP : Bx (TnPost own own w (wr.setCell ⟨b, o + 18 + i, none⟩ (.int .i64 (q : Int))) tP tF tO b ty N o f (t.limitTo q (i + 1))) := ⟨⟨f2, _, _, h2, fun j hj => (hj2 j hj).trans (hj1 j hj), hf2⟩⟩
        clear hP h1 h2 hf1 hf2
        go_wp2_with fail
        go_roundw
        case rel => exact ⟨i + 1, by omega, by go_num, HP.out⟩
        case measure => simp [intOf]; omega
      · have HP : Bx (TnPost own own w wr tP tF tO b ty N o f (t.limitTo q (i + 1))) := ⟨by rw [← Tn.limitTo_no t q i hq]; exact hP⟩
        clear hP h1 hf1
        go_wp2_with fail
        go_roundw
        case rel => exact ⟨i + 1, by omega, by go_num, HP.out⟩
        case measure => simp [intOf]; omega
    · obtain rfl : i = 16 := by omega
      have HP : Bx _ := ⟨hP⟩
      clear hP
      go_wp2_with fail
      go_end0
      exact ⟨rfl, HP.out⟩

end Go.Proofs.Ytnkicbopebgppaa

namespace Go.Proofs.Ytnkicbopebgppaa
open Go.RowKit Fl

/-- The first leaves its list, as it has no frame to give up. -/
def Tn.leave (t : Tn) : Tn :=
  if t.first.2 = false then t
  else if t.fresh ≠ [] ∧ t.old ≠ [] then { t.leaveList with old := t.old ++ [t.first.1] }
  else { t.leaveList with listed := fun i => if i = t.first.1 then false else t.listed i }

theorem Tn.leaveList_listed (t : Tn) : t.leaveList.listed = t.listed ∧ t.leaveList.deficit = t.deficit := by
  unfold Tn.leaveList
  split <;> exact ⟨rfl, rfl⟩

theorem Sl.shape {own : Nat → Nat} {w : World} {t n : Nat} {v : Value} {xs : List Value} (h : Sl anyC own w t 1 v n xs) : ∃ a cap, v = .slice a n cap := by
  obtain ⟨_, h2⟩ := h
  rcases h2 with ⟨hv, hn⟩ | ⟨g, off, cap, hv, _⟩
  · exact ⟨none, 0, by rw [hn]; exact hv⟩
  · exact ⟨some ⟨g, off, none⟩, cap, hv⟩

set_option maxRecDepth 100000 in
set_option maxHeartbeats 1600000 in
theorem leave_any (own : Nat → Nat) (tP tF tO b ty N o : Nat) (f : Nat → Value) (vF vO : Value) (t t' : Tn) (w : World) (h : TnAt own w tP tF tO b ty N o f vF vO t) (hl : t.old.length ≤ 900) (ht' : Bx (t.leave = t')) :
    Calls Try.prog 66 #[.pointer (some ⟨b, o, none⟩)] w fun e w' => e = .returned (.tuple #[]) ∧ ∃ own', TnPost own own' w w' tP tF tO b ty N o f t' := by
  obtain ⟨i0, hi, hz0, hz1, hz2⟩ := info_parts infoInt
  have hin := h.inn
  have hblt := h.row.row.lt
  have d0 : w.cell? ⟨b, o, none⟩ = some vF := (h.row.row.cell (by omega)).trans (by rw [h.c0])
  have HF1 : Bx _ := ⟨first_any own tP tF tO b ty N o f vF vO t w h⟩
  have HL1 : Bx _ := ⟨leaveList_any own tP tF tO b ty N o f vF vO t w h⟩
  have ht := ht'.out
  have l1 := h.lF
  unfold Tn.leave at ht
  rcases hfr : t.fresh with _ | ⟨x, l⟩
  · have hF := h.slF
    rw [hfr] at hF
    obtain ⟨a, cap, rfl⟩ := Sl.nilShape hF
    rcases hol : t.old with _ | ⟨y, l⟩
    · have hfi : t.first = (0, false) := by unfold Tn.first; rw [hfr, hol]
      rw [hfi] at ht
      simp only [if_true] at ht
      subst ht
      have hf1 := HF1.out
      rw [hfi] at hf1
      have HF2 : Bx _ := ⟨hf1⟩
      have H : Bx _ := ⟨h⟩
      clear h hF hfr hol hfi ht' HF1 hf1 HL1
      go_enter Try.func66, Try.ntmps66
      go_wp2_with fail
      refine HF2.out.mono ?_
      rintro e w1 ⟨rfl, rfl⟩
      go_wp2_with fail
      exact bodyPost_ret (v := .tuple #[]) (by simp [results, Try.results66, go_sem]) rfl ⟨rfl, own, ⟨f, _, _, H.out, fun _ _ => rfl, Fr.refl _ _ _⟩⟩
    · have hfi : t.first = (y, true) := by unfold Tn.first; rw [hfr, hol]
      have hy : y < 16 := h.bO y (by rw [hol]; simp)
      rw [hfi, if_neg (by simp), if_neg (by rw [hfr]; simp)] at ht
      have hf1 := HF1.out
      rw [hfi] at hf1
      have HF2 : Bx _ := ⟨hf1⟩
      have HT : Bx _ := ⟨ht⟩
      clear h hF hfr hol hfi ht' HF1 hf1 ht
      go_enter Try.func66, Try.ntmps66
      go_wp2_with fail
      refine HF2.out.mono ?_
      rintro e w1 ⟨rfl, rfl⟩
      go_wp2_with fail
      refine HL1.out.mono ?_
      rintro e w2 ⟨rfl, hP⟩
      obtain ⟨f1, vF1, vO1, h1, hj1, hf1⟩ := hP.ex
      have e2 : w2.cell? ⟨b, o + 2 + y, none⟩ = some (.bool (t.leaveList.listed y)) := (h1.row.row.cell (by omega)).trans (by rw [h1.li y hy])
      have ez := h1.row.row.frozen
      obtain ⟨f2, h2, hj2⟩ := h1.setListed y hy false
      have et : ({ t.leaveList with listed := fun i => if i = y then false else t.leaveList.listed i } : Tn) = t' := by rw [← HT.out, (t.leaveList_listed).1]
      rw [et] at h2
      have hf2 := hf1.setCell b (o + 2 + y) (.bool false) (.inl h1.row.tag)
      have HP : Bx (TnPost own own w1 (w2.setCell ⟨b, o + 2 + y, none⟩ (.bool false)) tP tF tO b ty N o f t') := ⟨⟨f2, _, _, h2, fun j hj => (hj2 j hj).trans (hj1 j hj), hf2⟩⟩
      clear hP h1 h2 hf1 hf2 et HT
      generalize t.leaveList.listed y = ly at *
      go_wp2_with fail
      go_end0
      exact ⟨rfl, own, HP.out⟩
  · have hfi : t.first = (x, true) := by unfold Tn.first; rw [hfr]
    have hx : x < 16 := h.bF x (by rw [hfr]; simp)
    have hF := h.slF
    rw [hfr] at hF
    obtain ⟨g, off, cap', rfl, hc, hxx⟩ := Sl.head hF
    have hll : t.leaveList = { t with fresh := l } := by unfold Tn.leaveList; rw [hfr]
    have hf1 := HF1.out
    rw [hfi] at hf1
    have HF2 : Bx _ := ⟨hf1⟩
    have hbO := h.bO
    have hll1 := HL1.out
    rw [hll] at hll1
    have HL2 : Bx _ := ⟨hll1⟩
    rw [hfr] at l1
    simp only [List.length_cons] at l1
    rcases hol : t.old with _ | ⟨y, l2⟩
    · rw [hfi, if_neg (by simp), if_neg (by rw [hol]; simp), hll] at ht
      have HT : Bx _ := ⟨ht⟩
      have HO : Bx _ := ⟨hol⟩
      clear h hF hfr hol hfi ht' HF1 hf1 ht hll hll1 HL1
      go_enter Try.func66, Try.ntmps66
      go_wp2_with fail
      refine HF2.out.mono ?_
      rintro e w1 ⟨rfl, rfl⟩
      go_wp2_with fail
      refine HL2.out.mono ?_
      rintro e w2 ⟨rfl, hP⟩
      obtain ⟨f1, vF1, vO1, h1, hj1, hf1⟩ := hP.ex
      have e1 : w2.cell? ⟨b, o + 1, none⟩ = some vO1 := (h1.row.row.cell (by omega)).trans (by rw [h1.c1])
      have e2 : w2.cell? ⟨b, o + 2 + x, none⟩ = some (.bool (t.listed x)) := (h1.row.row.cell (by omega)).trans (by rw [h1.li x hx])
      have ez := h1.row.row.frozen
      have hO1 := h1.slO
      simp only [HO.out] at hO1
      obtain ⟨a1, c1, rfl⟩ := Sl.nilShape hO1
      obtain ⟨f2, h2, hj2⟩ := h1.setListed x hx false
      have et : ({ ({ t with fresh := l } : Tn) with listed := fun i => if i = x then false else t.listed i } : Tn) = t' := HT.out
      rw [et] at h2
      have hf2 := hf1.setCell b (o + 2 + x) (.bool false) (.inl h1.row.tag)
      have HP : Bx (TnPost own own w1 (w2.setCell ⟨b, o + 2 + x, none⟩ (.bool false)) tP tF tO b ty N o f t') := ⟨⟨f2, _, _, h2, fun j hj => (hj2 j hj).trans (hj1 j hj), hf2⟩⟩
      clear hP h1 h2 hf1 hf2 et HT hO1
      generalize t.listed x = ly at *
      go_wp2_with fail
      go_end0
      exact ⟨rfl, own, HP.out⟩
    · rw [hfi, if_neg (by simp), if_pos (by rw [hol, hfr]; simp), hll] at ht
      have HT : Bx _ := ⟨ht⟩
      have hlo : 1 ≤ t.old.length := by rw [hol]; simp
      clear h hF hfr hol hfi ht' HF1 hf1 ht hll hll1 HL1
      go_enter Try.func66, Try.ntmps66
      go_wp2_with fail
      refine HF2.out.mono ?_
      rintro e w1 ⟨rfl, rfl⟩
      go_wp2_with fail
      refine HL2.out.mono ?_
      rintro e w2 ⟨rfl, hP⟩
      obtain ⟨f1, vF1, vO1, h1, hj1, hf1⟩ := hP.ex
      have e1 : w2.cell? ⟨b, o + 1, none⟩ = some vO1 := (h1.row.row.cell (by omega)).trans (by rw [h1.c1])
      have hO1 := h1.slO
      obtain ⟨a1, c1, hv1⟩ := Sl.shape hO1
      simp only at hv1
      subst hv1
      have H1 : Bx _ := ⟨h1⟩
      have HO1 : Bx (Sl anyC own w2 tO 1 (.slice a1 t.old.length c1) t.old.length (natCells t.old)) := ⟨hO1⟩
      have HF3 : Bx _ := ⟨hf1⟩
      have y3 : b < w2.heap.size := h1.row.row.lt
      clear hP h1 hf1 hO1
      go_wp2_with (at_builtin; refine wpList_append_sl _ rfl _ _ 34 rfl 3 i0 _ 1 8 Try.underlying34 hi hz0 hz1 hz2 rfl (by decide) anyC own tO (.slice a1 t.old.length c1) t.old.length (natCells t.old) rfl (HO1.out.below ((Below.refl _ _).alloc (Nat.le_refl _) _)) ⟨w2.heap.size, 0, none⟩ 1 1 [.int .i64 (x : Int)] rfl rfl (cells1 (by go_simp)) (one_int x) (fun _ _ _ => trivial) (fun _ _ _ => trivial) (by decide) (by unfold maxLen; omega) (by omega) ?_)
      intro v' w3 own3 hsl3 hfr3 db dk hv3
      subst hv3
      have h3 := H1.out.below ((Below.refl _ _).alloc (Nat.le_refl _) (Obj.cells #[Value.int IntKind.i64 (x : Int)] 3))
      have hrow := h3.row.fr hfr3 (fun e => h3.n2 e.symm)
      have g0 : w3.cell? ⟨b, o + 1, none⟩ = some (.slice a1 t.old.length c1) := (hrow.row.cell (by omega)).trans (by rw [h3.c1])
      have gz := hrow.row.frozen
      obtain ⟨f3, h4, hj3⟩ := h3.appO hfr3 (.slice (some db) (t.old.length + 1) dk) (t.old ++ [x]) (by rw [natCells_snoc, List.length_append]; exact hsl3) (fun z hz => by simp at hz; rcases hz with hz | rfl; exact hbO z hz; exact hx) (by simp; omega)
      rw [show ({ ({ t with fresh := l } : Tn) with old := t.old ++ [x] } : Tn) = t' from HT.out] at h4
      have hfr4 : Fr (fun x => x = tP ∨ x = tF ∨ x = tO) own own3 w1 (w3.setCell ⟨b, o + 1, none⟩ (.slice (some db) (t.old.length + 1) dk)) := ((HF3.out.alloc _).trans (hfr3.mono (fun _ e => .inr (.inr e)))).setCell b (o + 1) _ (.inl hrow.tag)
      have HP : Bx (TnPost own own3 w1 (w3.setCell ⟨b, o + 1, none⟩ (.slice (some db) (t.old.length + 1) dk)) tP tF tO b ty N o f t') := ⟨⟨f3, _, _, h4, fun j hj => (hj3 j hj).trans (hj1 j hj), hfr4⟩⟩
      clear h3 hrow h4 hfr4 hsl3 hfr3 HT
      go_wp2_with fail
      exact bodyPost_ret (v := .tuple #[]) (by simp [results, Try.results66, go_sem]) rfl ⟨rfl, own3, HP.out⟩

end Go.Proofs.Ytnkicbopebgppaa

namespace Go.Proofs.Ytnkicbopebgppaa
open Go.RowKit Fl

/-- The first bucket is passed over. -/
def Tn.turnOnce (t : Tn) (q : Nat) : Tn := { t.leaveList with old := t.leaveList.old ++ [t.first.1], deficit := fun i => if i = t.first.1 then t.deficit t.first.1 + q else t.deficit i }

def Tn.passB (t : Tn) : Bool := t.first.2 && decide (t.deficit t.first.1 ≤ 0)

def Tn.nexts (q : Nat) : Nat → Tn → Tn
  | 0, t => t
  | n + 1, t => if t.passB then Tn.nexts q n (t.turnOnce q) else t

theorem Tn.nexts_stop (q n : Nat) (t : Tn) (h : t.passB = false) : Tn.nexts q n t = t := by
  cases n
  · rfl
  · rw [Tn.nexts, h]; rfl

structure Tn.ok (t : Tn) : Prop where
  len : t.fresh.length + t.old.length ≤ 900
  lo : ∀ i, -1000000 ≤ t.deficit i
  hi : ∀ i, t.deficit i ≤ 1000000

theorem Tn.first_lt (t : Tn) (hF : ∀ x ∈ t.fresh, x < 16) (hO : ∀ x ∈ t.old, x < 16) : t.first.1 < 16 := by
  unfold Tn.first
  rcases hf : t.fresh with _ | ⟨x, l⟩
  · rcases ho : t.old with _ | ⟨y, l⟩
    · simp
    · exact hO y (by rw [ho]; simp)
  · exact hF x (by rw [hf]; simp)

theorem Tn.turnOnce_ok (t : Tn) (q : Nat) (h : t.ok) (hq : q ≤ 1000) (hp : t.passB = true) : (t.turnOnce q).ok := by
  unfold Tn.passB at hp
  simp only [Bool.and_eq_true, decide_eq_true_eq] at hp
  refine ⟨?_, ?_, ?_⟩
  · have := h.len
    unfold Tn.turnOnce Tn.leaveList
    have h1 := hp.1
    unfold Tn.first at h1
    rcases hf : t.fresh with _ | ⟨x, l⟩
    · rcases ho : t.old with _ | ⟨y, l⟩
      · rw [hf, ho] at h1; simp at h1
      · rw [hf, ho] at this; simp at this ⊢; omega
    · rw [hf] at this; simp at this ⊢; omega
  · intro i
    show -1000000 ≤ (if i = t.first.1 then t.deficit t.first.1 + (q : Int) else t.deficit i)
    have h1 := h.lo i; have h2 := h.lo t.first.1
    split <;> omega
  · intro i
    show (if i = t.first.1 then t.deficit t.first.1 + (q : Int) else t.deficit i) ≤ 1000000
    have h1 := h.hi i
    split <;> omega

set_option maxRecDepth 100000 in
set_option maxHeartbeats 3200000 in
theorem next_any (own : Nat → Nat) (tP tF tO b ty N o q n : Nat) (f : Nat → Value) (vF vO : Value) (t t' : Tn) (w : World) (h : TnAt own w tP tF tO b ty N o f vF vO t) (hok : t.ok) (hq1 : 1 ≤ q) (hq2 : q ≤ 1000) (ht' : Bx (Tn.nexts q n t = t')) (hend : t'.passB = false) :
    Calls Try.prog 62 #[.pointer (some ⟨b, o, none⟩), .int .i64 q] w fun e w' => ∃ own', e = .returned (.tuple #[.int .i64 (t'.first.1 : Nat), .bool t'.first.2]) ∧ TnPost own own' w w' tP tF tO b ty N o f t' := by
  obtain ⟨i0, hi, hz0, hz1, hz2⟩ := info_parts infoInt
  have hq0 : decide ((q : Int) < 1) = false := by simp; omega
  have H : Bx _ := ⟨h⟩
  have hin := h.inn
  clear h
  go_enter Try.func62, Try.ntmps62
  go_wp2_with fail
  refine (first_any own tP tF tO b ty N o f vF vO t _ H.out).mono ?_
  rintro e w0 ⟨rfl, rfl⟩
  go_wp2_with fail
  go_loopg [6, 7] n (fun k vb vf wr => ∃ (own1 : Nat → Nat) (t1 : Tn), TnPost own own1 w0 wr tP tF tO b ty N o f t1 ∧ vb = .int .i64 (t1.first.1 : Nat) ∧ vf = .bool t1.first.2 ∧ Bx (Tn.nexts q k t1 = t') ∧ t1.ok)
  case atStart => exact ⟨own, t, ⟨f, vF, vO, H.out, fun _ _ => rfl, Fr.refl _ _ _⟩, rfl, rfl, ht', hok⟩
  case round =>
    obtain ⟨own1, t1, hP, rfl, rfl, HN, hok1⟩ := hrel
    obtain ⟨f1, vF1, vO1, h1, hj1, hf1⟩ := hP.ex
    have hx := t1.first_lt h1.bF h1.bO
    cases hp : t1.passB
    · have ht1 : t1 = t' := by rw [← HN.out, Tn.nexts_stop q _ t1 hp]
      subst ht1
      have HP : Bx _ := ⟨hP⟩
      unfold Tn.passB at hp
      have d3 : wr.cell? ⟨b, o + 18 + t1.first.1, none⟩ = some (.int .i64 (t1.deficit t1.first.1)) := (h1.row.row.cell (by omega)).trans (by rw [h1.de _ hx])
      clear h1 hf1 hP HN
      generalize t1.deficit t1.first.1 = d at *
      cases hfd : t1.first.2
      · go_wp2_with fail
        go_ret2
        exact ⟨own1, by rw [hfd]; rfl, HP.out⟩
      · rw [hfd] at hp
        have hd : decide (d ≤ 0) = false := by simpa using hp
        go_wp2_with fail
        go_ret2
        exact ⟨own1, by rw [hfd]; rfl, HP.out⟩
    · have hok2 := t1.turnOnce_ok q hok1 hq2 hp
      obtain ⟨k', rfl⟩ : ∃ k', gk = k' + 1 := by
        cases gk with
        | zero =>
          have e1 : t1 = t' := HN.out
          rw [e1, hend] at hp
          cases hp
        | succ k' => exact ⟨k', rfl⟩
      have HN2 : Bx (Tn.nexts q k' (t1.turnOnce q) = t') := ⟨by rw [← HN.out, Tn.nexts, hp]; rfl⟩
      unfold Tn.passB at hp
      simp only [Bool.and_eq_true, decide_eq_true_eq] at hp
      obtain ⟨hfd, hd⟩ := hp
      have hlen := hok1.len
      have hlo := hok1.lo t1.first.1
      have d3 : wr.cell? ⟨b, o + 18 + t1.first.1, none⟩ = some (.int .i64 (t1.deficit t1.first.1)) := (h1.row.row.cell (by omega)).trans (by rw [h1.de _ hx])
      have dz := h1.row.row.frozen
      obtain ⟨f2, h2, hj2⟩ := h1.setDeficit t1.first.1 hx (t1.deficit t1.first.1 + q)
      have hf2 := hf1.setCell b (o + 18 + t1.first.1) (.int .i64 (t1.deficit t1.first.1 + q)) (.inl h1.row.tag)
      have hbO := h1.bO
      have hbF := h1.bF
      obtain ⟨x, Hx⟩ : ∃ x, Bx (t1.first.1 = x) := ⟨_, ⟨rfl⟩⟩
      obtain ⟨d, Hd⟩ : ∃ d, Bx (t1.deficit t1.first.1 = d) := ⟨_, ⟨rfl⟩⟩
      obtain ⟨t2, Ht2⟩ : ∃ t2 : Tn, Bx ({ t1 with deficit := fun i => if i = t1.first.1 then t1.deficit t1.first.1 + (q : Int) else t1.deficit i } = t2) := ⟨_, ⟨rfl⟩⟩
      have hfr2 : t2.fresh = t1.fresh ∧ t2.old = t1.old := by rw [← Ht2.out]; exact ⟨rfl, rfl⟩
      have h3o : t2.leaveList.old.length + t2.leaveList.fresh.length + 1 = t1.fresh.length + t1.old.length ∧ (∀ y ∈ t2.leaveList.old, y < 16) := by
        unfold Tn.leaveList
        rw [hfr2.1, hfr2.2]
        unfold Tn.first at hfd
        rcases hf : t1.fresh with _ | ⟨y, l⟩
        · rcases ho : t1.old with _ | ⟨z, l⟩
          · rw [hf, ho] at hfd; simp at hfd
          · exact ⟨by simp, fun y hy => hbO y (by rw [ho]; simp at hy; simp [hy])⟩
        · exact ⟨by simp; omega, fun y hy => hbO y (by simpa using hy)⟩
      have Ht3 : Bx ({ t2.leaveList with old := t2.leaveList.old ++ [x] } = t1.turnOnce q) := ⟨by
        rw [← Ht2.out, ← Hx.out]
        unfold Tn.turnOnce Tn.leaveList
        rcases hf : t1.fresh with _ | ⟨y, l⟩
        · rcases ho : t1.old with _ | ⟨z, l⟩ <;> simp [hf, ho]
        · simp⟩
      rw [Ht2.out] at h2
      rw [Hd.out] at d3 hlo hd
      rw [Hx.out] at d3 hx
      simp only [Hd.out] at h2 hf2
      simp only [Hx.out] at h2 hf2
      have H2 : Bx _ := ⟨h2⟩
      have HF2 : Bx _ := ⟨hf2⟩
      clear h1 hf1 hP HN h2 hf2 hok1 hbF hfr2 H
      rw [Hx.out, hfd]
      clear hfd
      go_wp2_with fail
      go_region
      go_wp2_with fail
      refine (leaveList_any own1 tP tF tO b ty N o f2 vF1 vO1 t2 _ (H2.out.fr (T := fun _ => False) ((Fr.refl _ _ _).drew) id id id)).mono ?_
      rintro e w3 ⟨rfl, hP3⟩
      obtain ⟨f3, vF3, vO3, h3, hj3, hf3⟩ := hP3.ex
      have e1 : w3.cell? ⟨b, o + 1, none⟩ = some vO3 := (h3.row.row.cell (by omega)).trans (by rw [h3.c1])
      obtain ⟨a3, c3, hv3⟩ := Sl.shape h3.slO
      subst hv3
      have H3 : Bx _ := ⟨h3⟩
      have HF3 : Bx (Fr (fun x => x = tP ∨ x = tF ∨ x = tO) own own1 w0 w3) := ⟨(HF2.out.drew).trans hf3⟩
      have y3 : b < w3.heap.size := h3.row.row.lt
      clear hP3 h3 hf3 d3 dz
      go_wp2_with (at_builtin; refine wpList_append_sl _ rfl _ _ 34 rfl 3 i0 _ 1 8 Try.underlying34 hi hz0 hz1 hz2 rfl (by decide) anyC own1 tO (.slice a3 t2.leaveList.old.length c3) t2.leaveList.old.length (natCells t2.leaveList.old) rfl (H3.out.slO.below ((Below.refl _ _).alloc (Nat.le_refl _) _)) ⟨w3.heap.size, 0, none⟩ 1 1 [.int .i64 (x : Int)] rfl rfl (cells1 (by go_simp)) (one_int x) (fun _ _ _ => trivial) (fun _ _ _ => trivial) (by decide) (by unfold maxLen; omega) (by omega) ?_)
      intro v' w4 own4 hsl4 hfr4 db dk hv4
      subst hv4
      have h4 := H3.out.below ((Below.refl _ _).alloc (Nat.le_refl _) (Obj.cells #[Value.int IntKind.i64 (x : Int)] 3))
      have hrow := h4.row.fr hfr4 (fun e => h4.n2 e.symm)
      have g0 : w4.cell? ⟨b, o + 1, none⟩ = some (.slice a3 t2.leaveList.old.length c3) := (hrow.row.cell (by omega)).trans (by rw [h4.c1])
      have gz := hrow.row.frozen
      obtain ⟨f5, h5, hj5⟩ := h4.appO hfr4 (.slice (some db) (t2.leaveList.old.length + 1) dk) (t2.leaveList.old ++ [x]) (by rw [natCells_snoc, List.length_append]; exact hsl4) (fun z hz => by simp at hz; rcases hz with hz | rfl; exact h3o.2 z hz; exact hx) (by simp; omega)
      rw [Ht3.out] at h5
      have hfr5 : Fr (fun x => x = tP ∨ x = tF ∨ x = tO) own own4 w0 (w4.setCell ⟨b, o + 1, none⟩ (.slice (some db) (t2.leaveList.old.length + 1) dk)) := ((HF3.out.alloc _).trans (hfr4.mono (fun _ e => .inr (.inr e)))).setCell b (o + 1) _ (.inl hrow.tag)
      have HP : Bx (TnPost own own4 w0 (w4.setCell ⟨b, o + 1, none⟩ (.slice (some db) (t2.leaveList.old.length + 1) dk)) tP tF tO b ty N o f (t1.turnOnce q)) := ⟨⟨f5, _, _, h5, fun j hj => (hj5 j hj).trans ((hj3 j hj).trans ((hj2 j hj).trans (hj1 j hj))), hfr5⟩⟩
      have HH5 : Bx _ := ⟨h5⟩
      clear h4 hrow h5 hfr5 hsl4 hfr4 Ht3
      go_wp2_with fail
      refine (first_any own4 tP tF tO b ty N o f5 _ _ (t1.turnOnce q) _ HH5.out).mono ?_
      rintro e w6 ⟨rfl, rfl⟩
      go_wp2_with fail
      go_roundg k'
      case rel => exact ⟨own4, t1.turnOnce q, HP.out, rfl, rfl, HN2, hok2⟩
      case measure => omega

end Go.Proofs.Ytnkicbopebgppaa

namespace Go.Proofs.Ytnkicbopebgppaa
open Fl

/-- An event. -/
structure Ev where
  time : Nat
  kind : Nat
  id : Nat
  b : Nat
  s : ByteArray

/-- A bucket gives up a frame: the bucket, those that were dropped, the frame, whether there is one, whether it was marked. -/
def Bk.giveUp (k : Bk) (c : Cf) (now : Nat) : Bk × List Fm × Fm × Bool × Bool :=
  match k.take c now with
  | (f, fd, late, k1) =>
    if late = false then ({ k1 with dropping := false }, [], f, fd, false)
    else if k1.dropping = true then goOnTo c now (k1.q.length + 1) k1 [] f fd
    else if marksB c f = true then (k1.starts c now, [], f.mark, fd, true)
    else match k1.take c now with
      | (f2, fd2, _, k2) => (k2.starts c now, [f], f2, fd2, false)

/-- A scheduler and its link. -/
structure Pt where
  c : Cf
  now : Nat
  busy : Bool
  upto : Nat
  bk : Nat → Bk
  tn : Tn
  ids : Nat
  done : List Ev

def newBk : Bk := ⟨[], false, 0, false, 0, 0, 0⟩
def newTn : Tn := ⟨[], [], fun _ => false, fun _ => 0⟩

def Pt.made (c : Cf) : Pt := ⟨c, 0, false, 0, fun _ => newBk, newTn, 0, []⟩

def Pt.put (p : Pt) (b : Nat) (k : Bk) : Pt := { p with bk := fun i => if i = b then k else p.bk i }
def Pt.happens (p : Pt) (kind b : Nat) (l : List Fm) : Pt := { p with done := p.done ++ l.map (fun f => ⟨p.now, kind, f.id, b, f.s⟩) }

def framesTo (bk : Nat → Bk) : Nat → Nat
  | 0 => 0
  | n + 1 => framesTo bk n + (bk n).q.length
def bytesTo (bk : Nat → Bk) : Nat → Nat
  | 0 => 0
  | n + 1 => bytesTo bk n + qBytes (bk n).q

def Pt.frames (p : Pt) : Nat := framesTo p.bk p.c.buckets
def Pt.memory (p : Pt) : Nat := bytesTo p.bk p.c.buckets + 64 * framesTo p.bk p.c.buckets
def Pt.tooMuch (p : Pt) : Bool := decide (p.c.packets < p.frames) || decide (p.c.memory < p.memory)

/-- The least of those with the most bytes, and how many these are. -/
def fullTo (bk : Nat → Bk) : Nat → Nat × Nat
  | 0 => (0, 0)
  | n + 1 => if (fullTo bk n).2 < qBytes (bk n).q then (n, qBytes (bk n).q) else fullTo bk n

def Pt.fullest (p : Pt) : Nat := (fullTo p.bk p.c.buckets).1

def Pt.shedOnce (p : Pt) : Pt := (p.put p.fullest (p.bk p.fullest).drop.2.2).happens 3 p.fullest [(p.bk p.fullest).drop.1]

def Pt.sheds : Nat → Pt → Pt
  | 0, p => p
  | n + 1, p => if p.tooMuch = true then Pt.sheds n p.shedOnce else p

def Pt.shed (p : Pt) : Pt := p.sheds p.frames

/-- The first bucket gives up a frame: is it on the link? -/
def Pt.served (p : Pt) (R : Bk × List Fm × Fm × Bool × Bool) : Pt × Bool :=
  match R with
  | (k, d, f, fd, m) =>
    if fd = true then (Pt.happens { (p.put p.tn.first.1 k).happens 4 p.tn.first.1 d with tn := p.tn.pay p.tn.first.1 f.s.size, busy := true, upto := p.now + f.s.size * p.c.tau } (if m = true then 2 else 1) p.tn.first.1 [f], true)
    else ({ (p.put p.tn.first.1 k).happens 4 p.tn.first.1 d with tn := p.tn.leave }, false)

def Pt.serve (p : Pt) : Pt × Bool := p.served ((p.bk p.tn.first.1).giveUp p.c p.now)

def potTo (d : Nat → Int) : Nat → Nat
  | 0 => 0
  | n + 1 => potTo d n + (1 - d n).toNat

def Tn.pot (t : Tn) : Nat := potTo t.deficit 16
def Tn.size (t : Tn) : Nat := 2 * t.fresh.length + t.old.length
def Tn.next (t : Tn) (q : Nat) : Tn := Tn.nexts q t.pot t

def Pt.feeds : Nat → Pt → Pt
  | 0, p => p
  | n + 1, p =>
    if (p.tn.next p.c.quantum).first.2 = false then { p with tn := p.tn.next p.c.quantum }
    else match Pt.serve { p with tn := p.tn.next p.c.quantum } with
      | (p1, true) => p1
      | (p1, false) => Pt.feeds n p1

def Pt.feed (p : Pt) : Pt := p.feeds (p.tn.size + 1)

/-- One look at the first bucket: has it come to an end? -/
def Pt.look (p : Pt) : Pt × Bool :=
  if p.tn.first.2 = false then (p, true)
  else if p.tn.deficit p.tn.first.1 ≤ 0 then ({ p with tn := p.tn.turnOnce p.c.quantum }, false)
  else p.serve

def Pt.links : Nat → Pt → Pt × Bool
  | 0, p => (p, false)
  | n + 1, p => match Pt.look p with
    | (p1, true) => (p1, true)
    | (p1, false) => Pt.links n p1

def Pt.runs (stop : Nat) : Nat → Pt → Pt
  | 0, p => p
  | n + 1, p => if p.busy = true ∧ p.upto ≤ stop then Pt.runs stop n (Pt.feed { p with now := p.upto, busy := false }) else p

def Pt.advance (p : Pt) (n : Nat) : Pt := { Pt.runs (p.now + n) (p.frames + 1) p with now := p.now + n }

def place (c : Cf) (s : ByteArray) : Nat := sipHash c.key (flowOf s) / 4294967296 * c.buckets / 4294967296

def Pt.joined (p : Pt) (b : Nat) (s : ByteArray) : Pt := { p.put b { p.bk b with q := (p.bk b).q ++ [⟨p.ids, s, p.now⟩] } with ids := p.ids + 1, tn := p.tn.enter b p.c.quantum }

def Pt.fedIfIdle (p : Pt) : Pt := if p.busy = true then p else p.feed

def Pt.arrive (p : Pt) (s : ByteArray) : Pt := (p.joined (place p.c s) s).shed.fedIfIdle

def flushEv (now : Nat) (bk : Nat → Bk) : Nat → List Ev
  | 0 => []
  | n + 1 => flushEv now bk n ++ (bk n).q.map (fun f => ⟨now, 5, f.id, n, f.s⟩)

def Pt.flushTo (p : Pt) (n : Nat) : Pt := { p with bk := fun i => if i < n then { p.bk i with q := [] } else p.bk i, done := p.done ++ flushEv p.now p.bk n }
def Pt.flush (p : Pt) : Pt := p.flushTo p.c.buckets
def Pt.renew (p : Pt) (c : Cf) : Pt := { p with c := c, bk := fun _ => newBk, tn := newTn }

def Cf.keeps (a c : Cf) : Prop := c.buckets = a.buckets ∧ c.key = a.key ∧ c.length = a.length
instance (a c : Cf) : Decidable (a.keeps c) := by unfold Cf.keeps; infer_instance

def Pt.configure (p : Pt) (c : Cf) : Pt := if p.c.keeps c then Pt.shed { p with c := c, tn := p.tn.limitTo c.quantum 16 } else p.flush.renew c
def Pt.reset (p : Pt) (key : ByteArray) : Pt := { p.flush.renew { p.c with key := key } with done := [] }

/-- What Counts tells of the events. -/
def countOf (l : List Ev) (k : Nat) : Nat := (l.filter (fun e => e.kind == k)).length
def outOf : List Ev → Nat
  | [] => 0
  | e :: l => (if e.kind = 1 ∨ e.kind = 2 then e.s.size else 0) + outOf l
def Pt.counts (p : Pt) (k : Nat) : Nat := if k = 0 then p.ids else if k = 6 then outOf p.done else countOf p.done k

end Go.Proofs.Ytnkicbopebgppaa

namespace Go.Proofs.Ytnkicbopebgppaa
open Fl

/-- A bucket that is as it must be; n is how many frames it may count and hold. -/
structure Bk.ok (k : Bk) (c : Cf) (now n : Nat) : Prop where
  one : ∀ x ∈ k.q, 1 ≤ x.s.size ∧ x.s.size ≤ c.length
  si : ∀ x ∈ k.q, x.since ≤ now
  ab : k.above ≤ now + 1099511627776
  ab1 : k.timed = true → 1 ≤ k.above
  nx : k.next ≤ now + 1099511627776
  cn : k.count + k.q.length ≤ n
  la : k.last ≤ k.count

theorem newBk_ok (c : Cf) (now n : Nat) : newBk.ok c now n := ⟨by simp [newBk], by simp [newBk], by simp [newBk], by simp [newBk], by simp [newBk], by simp [newBk], by simp [newBk]⟩

theorem Bk.ok.mono {k : Bk} {c : Cf} {now now' n n' : Nat} (h : k.ok c now n) (h1 : now ≤ now') (h2 : n ≤ n') : k.ok c now' n' :=
  ⟨h.one, fun x hx => Nat.le_trans (h.si x hx) h1, by have := h.ab; omega, h.ab1, by have := h.nx; omega, by have := h.cn; omega, h.la⟩

/-- What a frame's taking comes to. -/
structure TakeIs (k : Bk) (c : Cf) (now n : Nat) (f : Fm) (fd late : Bool) (k1 : Bk) : Prop where
  no : fd = false → k.q = [] ∧ k1.q = [] ∧ late = false
  yes : fd = true → k.q = f :: k1.q
  late : late = true → fd = true
  ok : k1.ok c now (n - if fd then 1 else 0)
  count : k1.count = k.count
  next : k1.next = k.next
  last : k1.last = k.last
  dropping : k1.dropping = k.dropping

theorem Bk.take_is (k : Bk) (c : Cf) (now n : Nat) (hc : c.ok) (h : k.ok c now n) : TakeIs k c now n (k.take c now).1 (k.take c now).2.1 (k.take c now).2.2.1 (k.take c now).2.2.2 := by
  have hi := hc.i2
  have ht := hc.t1
  have ht2 := hc.t2
  have hab := h.ab
  have hcn := h.cn
  rcases hq : k.q with _ | ⟨f, l⟩
  · have hd : k.drop = (noFm, false, k) := by unfold Bk.drop; rw [hq]
    have e := k.take_a c now (.inl (by rw [hd]))
    rw [e, hd]
    exact ⟨fun _ => ⟨hq, hq, rfl⟩, fun h => by simp at h, fun h => by simp at h, ⟨h.one, h.si, h.ab, fun h => by simp at h, h.nx, h.cn, h.la⟩, rfl, rfl, rfl, rfl⟩
  · have hd : k.drop = (f, true, { k with q := l }) := by unfold Bk.drop; rw [hq]
    have hone : ∀ x ∈ l, 1 ≤ x.s.size ∧ x.s.size ≤ c.length := fun x hx => h.one x (by rw [hq]; simp [hx])
    have hsi : ∀ x ∈ l, x.since ≤ now := fun x hx => h.si x (by rw [hq]; simp [hx])
    have hl : k.count + l.length ≤ n - 1 := by rw [hq] at hcn; simp at hcn; omega
    by_cases hA : k.drop.2.1 = false ∨ now < k.drop.1.since + c.target ∨ qBytes k.drop.2.2.q ≤ c.length
    · have e := k.take_a c now hA
      rw [e, hd]
      exact ⟨fun h => by simp at h, fun _ => hq, fun h => by simp at h, ⟨hone, hsi, h.ab, fun h => by simp at h, h.nx, hl, h.la⟩, rfl, rfl, rfl, rfl⟩
    · by_cases hB : k.drop.2.2.timed = false
      · have e := k.take_b c now hA hB
        rw [e, hd]
        exact ⟨fun h => by simp at h, fun _ => hq, fun _ => rfl, ⟨hone, hsi, by show now + c.interval ≤ _; omega, fun _ => by show 1 ≤ now + c.interval; omega, h.nx, hl, h.la⟩, rfl, rfl, rfl, rfl⟩
      · have e := k.take_c c now hA hB
        rw [e, hd]
        exact ⟨fun h => by simp at h, fun _ => hq, fun _ => rfl, ⟨hone, hsi, h.ab, h.ab1, h.nx, hl, h.la⟩, rfl, rfl, rfl, rfl⟩

/-- What a bucket's giving up comes to. -/
structure GaveIs (q : List Fm) (c : Cf) (now n : Nat) (R : Bk × List Fm × Fm × Bool × Bool) : Prop where
  ok : R.1.ok c now n
  no : R.2.2.2.1 = false → q = R.2.1 ∧ R.1.q = []
  yes : R.2.2.2.1 = true → R.2.1.length + 1 + R.1.q.length = q.length ∧ 1 ≤ R.2.2.1.s.size ∧ R.2.2.1.s.size ≤ c.length
  sub : ∀ x ∈ R.2.1, x.s.size ≤ c.length
  bytes : qBytes R.1.q ≤ qBytes q

theorem Fm.mark_size (f : Fm) : f.mark.s.size = f.s.size := markOf_size f.s

theorem GaveIs.sent {q : List Fm} {c : Cf} {now n : Nat} {k : Bk} {d : List Fm} {f : Fm} {m : Bool} (hk : k.ok c now n) (hl : d.length + 1 + k.q.length = q.length) (h1 : 1 ≤ f.s.size) (h2 : f.s.size ≤ c.length) (hs : ∀ x ∈ d, x.s.size ≤ c.length) (hb : qBytes k.q ≤ qBytes q) :
    GaveIs q c now n (k, d, f, true, m) := ⟨hk, fun h => by simp at h, fun _ => ⟨hl, h1, h2⟩, hs, hb⟩

theorem Bk.ok.counted {k : Bk} {c : Cf} {now n : Nat} (h : k.ok c now n) (sp : Nat) (h1 : k.next + sp ≤ now + 1099511627776) (h2 : k.count + 1 + k.q.length ≤ n) : ({ k with count := k.count + 1, next := k.next + sp } : Bk).ok c now n :=
  ⟨h.one, h.si, h.ab, h.ab1, h1, h2, by show k.last ≤ k.count + 1; have := h.la; omega⟩

theorem goOnTo_is (c : Cf) (now n : Nat) (hc : c.ok) : ∀ (m : Nat) (k : Bk) (d : List Fm) (f : Fm) (q : List Fm), k.ok c now n → k.q.length < m → (k.dropping = true → k.count + k.q.length + 1 ≤ n) →
    q = d ++ f :: k.q → (∀ x ∈ q, 1 ≤ x.s.size ∧ x.s.size ≤ c.length) → (∀ x ∈ q, x.since ≤ now) → GaveIs q c now n (goOnTo c now m k d f true) := by
  intro m
  induction m with
  | zero => intro k d f q _ h; omega
  | succ m ih =>
    intro k d f q hk hm hr hq hone hsi
    have hsub : ∀ x ∈ d, x.s.size ≤ c.length := fun x hx => (hone x (by rw [hq]; simp [hx])).2
    have hf := hone f (by rw [hq]; simp)
    have hqb : qBytes k.q ≤ qBytes q := by
      have : ∀ (a b : List Fm), qBytes b ≤ qBytes (a ++ b) := by
        intro a b
        induction a with
        | nil => simp
        | cons x a ih => simp only [List.cons_append, qBytes]; omega
      rw [hq]
      exact Nat.le_trans (by simp [qBytes]) (this d (f :: k.q))
    by_cases hg : k.dropping = true ∧ k.next ≤ now
    · have hst := stepOf_le c.interval (k.count + 1) (by omega)
      have hi := hc.i2
      have hr' := hr hg.1
      by_cases hmk : marksB c f = true
      · rw [goOnTo_mark c now m k d f true hg hmk]
        have hms := f.mark_size
        exact GaveIs.sent (hk.counted _ (by omega) (by omega)) (by rw [hq]; simp; omega) (by omega) (by omega) hsub hqb
      · have hok : ({ k with count := k.count + 1 } : Bk).ok c now n := ⟨hk.one, hk.si, hk.ab, hk.ab1, hk.nx, by show k.count + 1 + k.q.length ≤ n; omega, by show k.last ≤ k.count + 1; have := hk.la; omega⟩
        have T := Bk.take_is _ c now n hc hok
        rcases ht : ({ k with count := k.count + 1 } : Bk).take c now with ⟨f2, fd2, late2, k2⟩
        rw [ht] at T
        cases hfd : fd2 with
        | false =>
          obtain ⟨e1, e2, e3⟩ := T.no hfd
          simp only at e1 e2 e3
          subst e3
          rw [goOnTo_calm c now m k k2 d f f2 true fd2 hg hmk ht]
          rw [goOnTo_stop _ _ _ _ _ _ _ (by simp)]
          have hok2 := T.ok
          rw [hfd] at hok2
          simp only [Bool.false_eq_true, if_false, Nat.sub_zero] at hok2
          refine ⟨⟨hok2.one, hok2.si, hok2.ab, hok2.ab1, hok2.nx, hok2.cn, hok2.la⟩, fun _ => ⟨by rw [hq]; show d ++ f :: k.q = d ++ [f]; rw [e1], e2⟩, fun h => by simp [hfd] at h, ?_, ?_⟩
          · intro x hx
            simp at hx
            rcases hx with hx | rfl
            · exact hsub x hx
            · exact hf.2
          · show qBytes k2.q ≤ _
            rw [e2]; simp [qBytes]
        | true =>
          have e1 : k.q = f2 :: k2.q := T.yes hfd
          have hok2 := T.ok
          rw [hfd] at hok2
          simp only [if_true] at hok2
          have c1 : k2.count = k.count + 1 := T.count
          have c2 : k2.next = k.next := T.next
          have c3 : k2.dropping = k.dropping := T.dropping
          have hq2 : q = (d ++ [f]) ++ f2 :: k2.q := by rw [hq, e1]; simp
          have hlen : k2.q.length + 1 = k.q.length := by rw [e1]; simp
          cases late2 with
          | true =>
            rw [goOnTo_late c now m k k2 d f f2 true fd2 hg hmk ht, hfd]
            rw [← c1] at hst
            generalize stepOf c.interval k2.count = sp at *
            refine ih _ _ _ _ ⟨hok2.one, hok2.si, hok2.ab, hok2.ab1, ?_, ?_, hok2.la⟩ (by show k2.q.length < m; omega) (fun _ => ?_) hq2 hone hsi
            · show k2.next + sp ≤ _
              rw [c2]; omega
            · show k2.count + k2.q.length ≤ n
              rw [c1]; omega
            · show k2.count + k2.q.length + 1 ≤ n
              rw [c1]; omega
          | false =>
            rw [goOnTo_calm c now m k k2 d f f2 true fd2 hg hmk ht, hfd]
            refine ih _ _ _ _ ⟨hok2.one, hok2.si, hok2.ab, hok2.ab1, hok2.nx, ?_, hok2.la⟩ (by show k2.q.length < m; omega) (fun h => by simp at h) hq2 hone hsi
            show k2.count + k2.q.length ≤ n
            rw [c1]; omega
    · rw [goOnTo_stop c now _ k d f true hg]
      exact ⟨hk, fun h => by simp at h, fun _ => ⟨by rw [hq]; simp; omega, hf.1, hf.2⟩, hsub, hqb⟩

theorem Bk.starts_ok (k : Bk) (c : Cf) (now n : Nat) (hc : c.ok) (h : k.ok c now n) (h1 : k.count + k.q.length + 1 ≤ n) : (k.starts c now).ok c now n := by
  have hb : k.fresh c now ≤ k.count + 1 := by unfold Bk.fresh; split <;> omega
  have hb1 : 1 ≤ k.fresh c now := by unfold Bk.fresh; split <;> omega
  have hst := stepOf_le c.interval (k.fresh c now) hb1
  have hi := hc.i2
  unfold Bk.starts
  generalize stepOf c.interval (k.fresh c now) = sp at *
  exact ⟨h.one, h.si, h.ab, h.ab1, by show now + sp ≤ _; omega, by show k.fresh c now + k.q.length ≤ n; omega, Nat.le_refl _⟩

theorem Bk.giveUp_is (k : Bk) (c : Cf) (now n : Nat) (hc : c.ok) (h : k.ok c now n) : GaveIs k.q c now n (k.giveUp c now) := by
  have T := k.take_is c now n hc h
  have hcn := h.cn
  unfold Bk.giveUp
  rcases ht : k.take c now with ⟨f, fd, late, k1⟩
  rw [ht] at T
  simp only at T ⊢
  have hok1 := T.ok
  cases hfd : fd with
  | false =>
    obtain ⟨e1, e2, e3⟩ := T.no hfd
    subst e3
    rw [if_pos rfl]
    exact ⟨⟨hok1.one, hok1.si, hok1.ab, hok1.ab1, hok1.nx, by have := hok1.cn; show k1.count + k1.q.length ≤ n; omega, hok1.la⟩, fun _ => ⟨e1, e2⟩, fun h => by simp at h, by simp, by show qBytes k1.q ≤ _; rw [e2]; simp [qBytes]⟩
  | true =>
    have e1 := T.yes hfd
    rw [hfd] at hok1
    simp only [if_true] at hok1
    have hcn1 := hok1.cn
    have hl : k1.q.length + 1 = k.q.length := by rw [e1]; simp
    have c1 := T.count
    have hone := h.one f (by rw [e1]; simp)
    have hn1 : k1.ok c now n := hok1.mono (Nat.le_refl _) (by omega)
    have hqb : qBytes k1.q ≤ qBytes k.q := by rw [e1]; simp [qBytes]
    have hrank : k1.count + k1.q.length + 1 ≤ n := by omega
    cases late with
    | false =>
      rw [if_pos rfl]
      exact ⟨⟨hn1.one, hn1.si, hn1.ab, hn1.ab1, hn1.nx, hn1.cn, hn1.la⟩, fun h => by simp at h, fun _ => ⟨by simp; omega, hone.1, hone.2⟩, by simp, hqb⟩
    | true =>
      rw [if_neg (by simp)]
      by_cases hd : k1.dropping = true
      · rw [if_pos hd]
        exact goOnTo_is c now n hc _ k1 [] f k.q hn1 (by omega) (fun _ => hrank) e1 h.one h.si
      · rw [if_neg hd]
        by_cases hm : marksB c f = true
        · rw [if_pos hm]
          have hms := f.mark_size
          generalize f.mark = fm at *
          exact ⟨k1.starts_ok c now n hc hn1 hrank, fun h => by simp at h, fun _ => ⟨by show 0 + 1 + k1.q.length = _; omega, by show 1 ≤ fm.s.size; omega, by show fm.s.size ≤ c.length; omega⟩, by simp, hqb⟩
        · rw [if_neg hm]
          have T2 := k1.take_is c now n hc hn1
          rcases ht2 : k1.take c now with ⟨f2, fd2, late2, k2⟩
          rw [ht2] at T2
          simp only at T2 ⊢
          have hok2 := T2.ok
          have c2 := T2.count
          have hcn2 := hok2.cn
          have hn2 : k2.ok c now n := hok2.mono (Nat.le_refl _) (by omega)
          cases hfd2 : fd2 with
          | false =>
            obtain ⟨e3, e4, _⟩ := T2.no hfd2
            have hr2 : k2.count + k2.q.length + 1 ≤ n := by rw [c2, e4]; simp; omega
            exact ⟨k2.starts_ok c now n hc hn2 hr2, fun _ => ⟨by rw [e1, e3], e4⟩, fun h => by simp at h, by intro x hx; simp at hx; subst hx; exact hone.2, by show qBytes k2.q ≤ _; rw [e4]; simp [qBytes]⟩
          | true =>
            have e3 := T2.yes hfd2
            have hl2 : k2.q.length + 1 = k1.q.length := by rw [e3]; simp
            have hr2 : k2.count + k2.q.length + 1 ≤ n := by rw [c2]; omega
            have hone2 := h.one f2 (by rw [e1, e3]; simp)
            exact ⟨k2.starts_ok c now n hc hn2 hr2, fun h => by simp at h, fun _ => ⟨by show 1 + 1 + k2.q.length = _; omega, hone2.1, hone2.2⟩, by intro x hx; simp at hx; subst hx; exact hone.2, by show qBytes k2.q ≤ _; rw [e1, e3]; simp only [qBytes]; omega⟩

end Go.Proofs.Ytnkicbopebgppaa

namespace Go.Proofs.Ytnkicbopebgppaa
open Fl

/-- Turns that are as they must be; n buckets. -/
structure Tn.good (t : Tn) (n : Nat) : Prop where
  nodup : (t.fresh ++ t.old).Nodup
  lt : ∀ x ∈ t.fresh ++ t.old, x < n
  li : ∀ i, t.listed i = true ↔ i ∈ t.fresh ++ t.old
  lo : ∀ i, -200 ≤ t.deficit i
  hi : ∀ i, t.deficit i ≤ 1000

theorem newTn_good (n : Nat) : newTn.good n := ⟨by simp [newTn], by simp [newTn], by simp [newTn], by simp [newTn], by simp [newTn]⟩

theorem nodup_len : ∀ (n : Nat) (l : List Nat), l.Nodup → (∀ x ∈ l, x < n) → l.length ≤ n := by
  intro n
  induction n with
  | zero =>
    intro l _ hl
    rcases l with _ | ⟨x, l⟩
    · simp
    · exact absurd (hl x (by simp)) (by omega)
  | succ n ih =>
    intro l hn hl
    have h1 := ih (l.erase n) (hn.erase n) (fun x hx => by
      obtain ⟨h2, h3⟩ := hn.mem_erase_iff.1 hx
      have := hl x h3
      omega)
    rw [List.length_erase] at h1
    split at h1 <;> omega

theorem Tn.good.len {t : Tn} {n : Nat} (h : t.good n) : t.fresh.length + t.old.length ≤ n := by
  have := nodup_len n _ h.nodup h.lt
  simpa using this

theorem Tn.good.ok {t : Tn} {n : Nat} (h : t.good n) (hn : n ≤ 16) : t.ok := by
  have := h.len
  exact ⟨by omega, fun i => by have := h.lo i; omega, fun i => by have := h.hi i; omega⟩

/-- The first of both lists, and what is left of them. -/
theorem Tn.first_cases (t : Tn) : (t.first = (0, false) ∧ t.fresh = [] ∧ t.old = []) ∨ (∃ x l, t.fresh = x :: l ∧ t.first = (x, true) ∧ t.leaveList = { t with fresh := l }) ∨ (∃ x l, t.fresh = [] ∧ t.old = x :: l ∧ t.first = (x, true) ∧ t.leaveList = { t with old := l }) := by
  unfold Tn.first Tn.leaveList
  rcases hf : t.fresh with _ | ⟨x, l⟩
  · rcases ho : t.old with _ | ⟨y, l⟩
    · exact .inl ⟨rfl, rfl, rfl⟩
    · exact .inr (.inr ⟨y, l, rfl, rfl, rfl, rfl⟩)
  · exact .inr (.inl ⟨x, l, rfl, rfl, rfl⟩)

theorem Tn.good.first_lt {t : Tn} {n : Nat} (h : t.good n) (hf : t.first.2 = true) : t.first.1 < n := by
  rcases t.first_cases with ⟨e, _⟩ | ⟨x, l, e1, e2, _⟩ | ⟨x, l, e1, e2, e3, _⟩
  · rw [e] at hf; simp at hf
  · rw [e2]; exact h.lt x (by rw [e1]; simp)
  · rw [e3]; exact h.lt x (by rw [e2]; simp)

theorem Tn.turnOnce_good (t : Tn) (n q : Nat) (h : t.good n) (hp : t.passB = true) (hq : q ≤ 1000) : (t.turnOnce q).good n := by
  unfold Tn.passB at hp
  simp only [Bool.and_eq_true, decide_eq_true_eq] at hp
  have hde : ∀ i, -200 ≤ (t.turnOnce q).deficit i ∧ (t.turnOnce q).deficit i ≤ 1000 := by
    intro i
    show -200 ≤ (if i = t.first.1 then t.deficit t.first.1 + (q : Int) else t.deficit i) ∧ (if i = t.first.1 then t.deficit t.first.1 + (q : Int) else t.deficit i) ≤ 1000
    have h1 := h.lo i; have h2 := h.hi i; have h3 := h.lo t.first.1
    split <;> omega
  have hn := h.nodup
  have hl := h.lt
  have hli := h.li
  rcases t.first_cases with ⟨e, _⟩ | ⟨x, l, e1, e2, e3⟩ | ⟨x, l, e1, e2, e3, e4⟩
  · rw [e] at hp; simp at hp
  · have ht : (t.turnOnce q).fresh = l ∧ (t.turnOnce q).old = t.old ++ [x] ∧ (t.turnOnce q).listed = t.listed := by unfold Tn.turnOnce; rw [e3, e2]; exact ⟨rfl, rfl, rfl⟩
    obtain ⟨t1, t2, t3⟩ := ht
    rw [e1] at hn hl hli
    have hP : (l ++ (t.old ++ [x])).Perm (x :: l ++ t.old) := by
      rw [← List.append_assoc]
      simpa using (List.perm_append_comm (l₁ := l ++ t.old) (l₂ := [x]))
    refine ⟨by rw [t1, t2]; exact hP.nodup_iff.2 hn, fun y hy => hl y (by rw [t1, t2] at hy; exact hP.mem_iff.1 hy), fun i => by rw [t3, hli i, t1, t2]; exact hP.mem_iff.symm, fun i => (hde i).1, fun i => (hde i).2⟩
  · have ht : (t.turnOnce q).fresh = [] ∧ (t.turnOnce q).old = l ++ [x] ∧ (t.turnOnce q).listed = t.listed := by unfold Tn.turnOnce; rw [e4, e3, ← e1]; exact ⟨rfl, rfl, rfl⟩
    obtain ⟨t1, t2, t3⟩ := ht
    rw [e1, e2] at hn hl hli
    have hP : ([] ++ (l ++ [x])).Perm ([] ++ x :: l) := by
      simp
    refine ⟨by rw [t1, t2]; exact hP.nodup_iff.2 hn, fun y hy => hl y (by rw [t1, t2] at hy; exact hP.mem_iff.1 hy), fun i => by rw [t3, hli i, t1, t2]; exact hP.mem_iff.symm, fun i => (hde i).1, fun i => (hde i).2⟩

theorem Tn.turnOnce_size (t : Tn) (q : Nat) (hp : t.passB = true) : (t.turnOnce q).size ≤ t.size := by
  unfold Tn.passB at hp
  simp only [Bool.and_eq_true] at hp
  unfold Tn.turnOnce Tn.size
  rcases t.first_cases with ⟨e, _⟩ | ⟨x, l, e1, e2, e3⟩ | ⟨x, l, e1, e2, e3, e4⟩
  · rw [e] at hp; simp at hp
  · rw [e3, e1]; simp; omega
  · rw [e4, e2]; simp

theorem potTo_le (d d' : Nat → Int) (x : Nat) (hx : ∀ i, i ≠ x → d' i = d i) : ∀ n, (n ≤ x → potTo d' n = potTo d n) ∧ (x < n → d x ≤ 0 → d x < d' x → potTo d' n < potTo d n) := by
  intro n
  induction n with
  | zero => exact ⟨fun _ => rfl, fun h => by omega⟩
  | succ n ih =>
    refine ⟨fun h => ?_, fun h h1 h2 => ?_⟩
    · simp only [potTo]
      rw [ih.1 (by omega), hx n (by omega)]
    · simp only [potTo]
      by_cases e : n = x
      · subst e
        rw [ih.1 (Nat.le_refl _)]
        omega
      · rw [hx n e]
        have := ih.2 (by omega) h1 h2
        omega

theorem Tn.turnOnce_pot (t : Tn) (n q : Nat) (h : t.good n) (hn : n ≤ 16) (hp : t.passB = true) (hq : 1 ≤ q) : (t.turnOnce q).pot < t.pot := by
  have hp' := hp
  unfold Tn.passB at hp
  simp only [Bool.and_eq_true, decide_eq_true_eq] at hp
  have hx := h.first_lt hp.1
  refine (potTo_le t.deficit (t.turnOnce q).deficit t.first.1 (fun i hi => ?_) 16).2 (by omega) hp.2 ?_
  · show (if i = t.first.1 then _ else t.deficit i) = _
    rw [if_neg hi]
  · show t.deficit t.first.1 < (if t.first.1 = t.first.1 then t.deficit t.first.1 + (q : Int) else _)
    rw [if_pos rfl]; omega

theorem Tn.nexts_is (n q : Nat) (hn : n ≤ 16) (hq1 : 1 ≤ q) (hq2 : q ≤ 1000) : ∀ (m : Nat) (t : Tn), t.good n → t.pot ≤ m → (Tn.nexts q m t).passB = false ∧ (Tn.nexts q m t).good n ∧ (Tn.nexts q m t).size ≤ t.size := by
  intro m
  induction m with
  | zero =>
    intro t h hm
    have : t.passB = false := by
      cases hp : t.passB with
      | false => rfl
      | true => have := t.turnOnce_pot n q h hn hp hq1; omega
    exact ⟨this, h, Nat.le_refl _⟩
  | succ m ih =>
    intro t h hm
    cases hp : t.passB with
    | false => rw [Tn.nexts_stop q _ t hp]; exact ⟨hp, h, Nat.le_refl _⟩
    | true =>
      rw [Tn.nexts, if_pos hp]
      have h1 := t.turnOnce_pot n q h hn hp hq1
      obtain ⟨a, b, c⟩ := ih _ (t.turnOnce_good n q h hp hq2) (by omega)
      exact ⟨a, b, Nat.le_trans c (t.turnOnce_size q hp)⟩

theorem Tn.next_is (t : Tn) (n q : Nat) (h : t.good n) (hn : n ≤ 16) (hq1 : 1 ≤ q) (hq2 : q ≤ 1000) : (t.next q).passB = false ∧ (t.next q).good n ∧ (t.next q).size ≤ t.size := Tn.nexts_is n q hn hq1 hq2 t.pot t h (Nat.le_refl _)

theorem Tn.pay_good (t : Tn) (n k m : Nat) (h : t.good n) (hd : 0 < t.deficit k) (hm : m ≤ 200) : (t.pay k m).good n := by
  refine ⟨h.nodup, h.lt, h.li, fun i => ?_, fun i => ?_⟩
  · show -200 ≤ (if i = k then t.deficit k - (m : Int) else t.deficit i)
    have := h.lo i
    split <;> omega
  · show (if i = k then t.deficit k - (m : Int) else t.deficit i) ≤ 1000
    have := h.hi i; have := h.hi k
    split <;> omega

theorem Tn.leave_good (t : Tn) (n : Nat) (h : t.good n) (hf : t.first.2 = true) : t.leave.good n ∧ t.leave.size < t.size := by
  have hn := h.nodup
  have hl := h.lt
  have hli := h.li
  unfold Tn.leave Tn.size
  rw [if_neg (by simp [hf])]
  rcases t.first_cases with ⟨e, _⟩ | ⟨x, l, e1, e2, e3⟩ | ⟨x, l, e1, e2, e3, e4⟩
  · rw [e] at hf; simp at hf
  · rw [e1] at hn hl hli
    rw [e1, e2, e3]
    by_cases ho : t.old = []
    · rw [if_neg (by simp [ho])]
      rw [ho] at hn hl hli ⊢
      simp only [List.append_nil] at hn hl hli
      refine ⟨⟨by simp; exact (List.nodup_cons.1 hn).2, fun y hy => hl y (by simp at hy; simp [hy]), fun i => ?_, h.lo, h.hi⟩, by simp⟩
      show (if i = x then false else t.listed i) = true ↔ i ∈ l ++ []
      simp only [List.append_nil]
      by_cases e : i = x
      · subst e; simp [(List.nodup_cons.1 hn).1]
      · rw [if_neg e, hli i]; simp [e]
    · rw [if_pos ⟨by simp, ho⟩]
      have hP : (l ++ (t.old ++ [x])).Perm (x :: l ++ t.old) := by
        rw [← List.append_assoc]
        simpa using (List.perm_append_comm (l₁ := l ++ t.old) (l₂ := [x]))
      exact ⟨⟨hP.nodup_iff.2 hn, fun y hy => hl y (hP.mem_iff.1 hy), fun i => by show t.listed i = true ↔ i ∈ l ++ (t.old ++ [x]); rw [hli i]; exact hP.mem_iff.symm, h.lo, h.hi⟩, by simp; omega⟩
  · rw [e1, e2] at hn hl hli
    rw [e1, e2, e3, e4]
    rw [if_neg (by simp)]
    simp only [List.nil_append] at hn hl hli
    refine ⟨⟨by simp [e1]; exact (List.nodup_cons.1 hn).2, fun y hy => hl y (by simp [e1] at hy; simp [hy]), fun i => ?_, h.lo, h.hi⟩, by simp [e1]⟩
    show (if i = x then false else t.listed i) = true ↔ i ∈ t.fresh ++ l
    rw [e1, List.nil_append]
    by_cases e : i = x
    · subst e; simp [(List.nodup_cons.1 hn).1]
    · rw [if_neg e, hli i]; simp [e]

theorem Tn.enter_good (t : Tn) (n k q : Nat) (h : t.good n) (hk : k < n) (hq : q ≤ 1000) : (t.enter k q).good n := by
  unfold Tn.enter
  by_cases hb : t.listed k = true
  · rw [if_pos hb]; exact h
  · rw [if_neg hb]
    have hni : k ∉ t.fresh ++ t.old := fun e => hb ((h.li k).2 e)
    have hP : (t.fresh ++ [k] ++ t.old).Perm (k :: (t.fresh ++ t.old)) := by
      rw [List.append_assoc]
      simp
    refine ⟨hP.nodup_iff.2 (List.nodup_cons.2 ⟨hni, h.nodup⟩), fun y hy => ?_, fun i => ?_, fun i => ?_, fun i => ?_⟩
    · rcases List.mem_cons.1 (hP.mem_iff.1 hy) with rfl | e
      · exact hk
      · exact h.lt y e
    · show (if i = k then true else t.listed i) = true ↔ i ∈ t.fresh ++ [k] ++ t.old
      rw [hP.mem_iff, List.mem_cons]
      by_cases e : i = k
      · simp [e]
      · rw [if_neg e, h.li i]; simp [e]
    · show -200 ≤ (if i = k then (q : Int) else t.deficit i)
      have := h.lo i
      split <;> omega
    · show (if i = k then (q : Int) else t.deficit i) ≤ 1000
      have := h.hi i
      split <;> omega

theorem Tn.limit_good (t : Tn) (n q m : Nat) (h : t.good n) (hq : q ≤ 1000) : (t.limitTo q m).good n := by
  refine ⟨h.nodup, h.lt, h.li, fun i => ?_, fun i => ?_⟩
  · show -200 ≤ (if i < m ∧ (q : Int) < t.deficit i then (q : Int) else t.deficit i)
    have := h.lo i
    split <;> omega
  · show (if i < m ∧ (q : Int) < t.deficit i then (q : Int) else t.deficit i) ≤ 1000
    have := h.hi i
    split <;> omega

end Go.Proofs.Ytnkicbopebgppaa

namespace Go.Proofs.Ytnkicbopebgppaa
open Fl

theorem framesTo_congr (bk bk' : Nat → Bk) : ∀ n, (∀ i, i < n → (bk' i).q.length = (bk i).q.length) → framesTo bk' n = framesTo bk n := by
  intro n
  induction n with
  | zero => intro _; rfl
  | succ n ih => intro h; rw [framesTo, framesTo, ih (fun i hi => h i (by omega)), h n (by omega)]

theorem framesTo_put (bk : Nat → Bk) (b : Nat) (k : Bk) : ∀ n, (n ≤ b → framesTo (fun i => if i = b then k else bk i) n = framesTo bk n) ∧ (b < n → framesTo (fun i => if i = b then k else bk i) n + (bk b).q.length = framesTo bk n + k.q.length) := by
  intro n
  induction n with
  | zero => exact ⟨fun _ => rfl, fun h => by omega⟩
  | succ n ih =>
    refine ⟨fun h => ?_, fun h => ?_⟩
    · rw [framesTo, framesTo, ih.1 (by omega), if_neg (by omega)]
    · rw [framesTo, framesTo]
      by_cases e : n = b
      · subst e
        rw [ih.1 (Nat.le_refl _), if_pos rfl]; omega
      · rw [if_neg e]
        have := ih.2 (by omega)
        omega

theorem framesTo_zero (bk : Nat → Bk) : ∀ n, framesTo bk n = 0 → ∀ i, i < n → (bk i).q = [] := by
  intro n
  induction n with
  | zero => intro _ i hi; omega
  | succ n ih =>
    intro h i hi
    rw [framesTo] at h
    by_cases e : i = n
    · subst e; exact List.length_eq_zero_iff.1 (by omega)
    · exact ih (by omega) i (by omega)

theorem framesTo_le (bk : Nat → Bk) : ∀ n i, i < n → (bk i).q.length ≤ framesTo bk n := by
  intro n
  induction n with
  | zero => intro i hi; omega
  | succ n ih =>
    intro i hi
    rw [framesTo]
    by_cases e : i = n
    · subst e; omega
    · have := ih i (by omega); omega

theorem bytesTo_zero (bk : Nat → Bk) : ∀ n, framesTo bk n = 0 → bytesTo bk n = 0 := by
  intro n
  induction n with
  | zero => intro _; rfl
  | succ n ih =>
    intro h
    rw [framesTo] at h
    have : (bk n).q = [] := List.length_eq_zero_iff.1 (by omega)
    rw [bytesTo, ih (by omega), this]; rfl

/-- The least of those with the most bytes. -/
structure FullIs (bk : Nat → Bk) (n b m : Nat) : Prop where
  all : ∀ i, i < n → qBytes (bk i).q ≤ m
  zero : m = 0 → b = 0
  at_ : 0 < m → b < n ∧ qBytes (bk b).q = m ∧ ∀ i, i < b → qBytes (bk i).q < m

theorem fullTo_is (bk : Nat → Bk) : ∀ n, FullIs bk n (fullTo bk n).1 (fullTo bk n).2 := by
  intro n
  induction n with
  | zero => exact ⟨fun i hi => by omega, fun _ => rfl, fun h => by simp [fullTo] at h⟩
  | succ n ih =>
    rw [fullTo]
    by_cases h : (fullTo bk n).2 < qBytes (bk n).q
    · rw [if_pos h]
      refine ⟨fun i hi => ?_, fun e => by simp only at e; omega, fun _ => ⟨by show n < n + 1; omega, rfl, fun i hi => ?_⟩⟩
      · show qBytes (bk i).q ≤ qBytes (bk n).q
        by_cases e : i = n
        · subst e; omega
        · have := ih.all i (by omega); omega
      · show qBytes (bk i).q < qBytes (bk n).q
        have := ih.all i hi; omega
    · rw [if_neg h]
      refine ⟨fun i hi => ?_, ih.zero, fun h0 => ?_⟩
      · by_cases e : i = n
        · subst e; omega
        · exact ih.all i (by omega)
      · obtain ⟨a, b, c⟩ := ih.at_ h0
        exact ⟨by omega, b, c⟩

theorem FullIs.unique {bk : Nat → Bk} {n b m b' m' : Nat} (h : FullIs bk n b m) (h' : FullIs bk n b' m') : b = b' ∧ m = m' := by
  by_cases e : m = 0
  · by_cases e' : m' = 0
    · exact ⟨by rw [h.zero e, h'.zero e'], by omega⟩
    · obtain ⟨a, b, _⟩ := h'.at_ (by omega)
      have := h.all _ a; omega
  · obtain ⟨a, b, c⟩ := h.at_ (by omega)
    by_cases e' : m' = 0
    · have := h'.all _ a; omega
    · obtain ⟨a', b', c'⟩ := h'.at_ (by omega)
      have h1 := h.all _ a'
      have h2 := h'.all _ a
      have hm : m = m' := by omega
      subst hm
      refine ⟨?_, rfl⟩
      rename_i B B'
      apply Nat.le_antisymm
      · apply Nat.le_of_not_lt; intro hlt
        have := c _ hlt; omega
      · apply Nat.le_of_not_lt; intro hlt
        have := c' _ hlt; omega

/-- A scheduler that is as it must be. -/
structure Pt.ok (p : Pt) : Prop where
  c : p.c.ok
  now : p.now ≤ 4611686018427387904
  bk : ∀ i, (p.bk i).ok p.c p.now p.ids
  fr : p.frames ≤ 65
  tn : p.tn.good p.c.buckets
  up : p.busy = true → p.now ≤ p.upto ∧ p.upto ≤ p.now + 209715200
  ev : ∀ e ∈ p.done, 1 ≤ e.kind ∧ e.kind ≤ 5 ∧ e.s.size ≤ 200
  dn : p.done.length + p.frames ≤ p.ids

theorem Pt.made_ok (c : Cf) (h : c.ok) : (Pt.made c).ok := by
  have h0 : (Pt.made c).frames = 0 := by
    show framesTo (fun _ => newBk) c.buckets = 0
    have : ∀ n, framesTo (fun _ => newBk) n = 0 := by
      intro n
      induction n with
      | zero => rfl
      | succ n ih => rw [framesTo, ih]; rfl
    exact this _
  exact ⟨h, by simp [Pt.made], fun i => newBk_ok _ _ _, by omega, newTn_good _, fun e => by simp [Pt.made] at e, fun e he => by simp [Pt.made] at he, by rw [h0]; simp [Pt.made]⟩

theorem Pt.put_frames (p : Pt) (b : Nat) (k : Bk) (hb : b < p.c.buckets) : (p.put b k).frames + (p.bk b).q.length = p.frames + k.q.length := (framesTo_put p.bk b k p.c.buckets).2 hb

theorem Pt.put_bk (p : Pt) (b : Nat) (k : Bk) (c : Cf) (now n : Nat) (h : ∀ i, (p.bk i).ok c now n) (hk : k.ok c now n) : ∀ i, ((p.put b k).bk i).ok c now n := by
  intro i
  show (if i = b then k else p.bk i).ok c now n
  split
  · exact hk
  · exact h i

theorem Pt.frames_pos (p : Pt) (h : p.ok) (ht : p.tooMuch = true) : 0 < p.frames := by
  have h1 := h.c.p1; have h2 := h.c.m1
  unfold Pt.tooMuch at ht
  simp only [Bool.or_eq_true, decide_eq_true_eq] at ht
  rcases Nat.eq_zero_or_pos p.frames with e | e
  · have : bytesTo p.bk p.c.buckets = 0 := bytesTo_zero _ _ e
    unfold Pt.memory at ht
    have e2 : framesTo p.bk p.c.buckets = 0 := e
    rw [this, e2] at ht
    omega
  · exact e

theorem Pt.fullest_is (p : Pt) (h : p.ok) (hp : 0 < p.frames) : p.fullest < p.c.buckets ∧ (p.bk p.fullest).q ≠ [] := by
  have F := fullTo_is p.bk p.c.buckets
  have hpos : 0 < (fullTo p.bk p.c.buckets).2 := by
    rcases Nat.eq_zero_or_pos (fullTo p.bk p.c.buckets).2 with e | e
    · exfalso
      have hz : framesTo p.bk p.c.buckets = 0 := by
        have : ∀ n, n ≤ p.c.buckets → framesTo p.bk n = 0 := by
          intro n
          induction n with
          | zero => intro _; rfl
          | succ n ih =>
            intro hn
            rw [framesTo, ih (by omega)]
            have hb := F.all n (by omega)
            rcases hq : (p.bk n).q with _ | ⟨f, l⟩
            · rfl
            · have := (h.bk n).one f (by rw [hq]; simp)
              rw [hq] at hb
              simp only [qBytes] at hb
              omega
        exact this _ (Nat.le_refl _)
      have : p.frames = framesTo p.bk p.c.buckets := rfl
      omega
    · exact e
  obtain ⟨a, b, _⟩ := F.at_ hpos
  refine ⟨a, fun e => ?_⟩
  have e2 : (p.bk (fullTo p.bk p.c.buckets).1).q = [] := e
  rw [e2] at b
  simp only [qBytes] at b
  omega

theorem Bk.drop_ok (k : Bk) (c : Cf) (now n : Nat) (h : k.ok c now n) : k.drop.2.2.ok c now n := by
  unfold Bk.drop
  rcases hq : k.q with _ | ⟨f, l⟩
  · exact h
  · exact ⟨fun x hx => h.one x (by rw [hq]; simp only at hx; simp [hx]), fun x hx => h.si x (by rw [hq]; simp only at hx; simp [hx]), h.ab, h.ab1, h.nx, by have := h.cn; rw [hq] at this; simp at this ⊢; omega, h.la⟩

theorem Pt.shedOnce_ok (p : Pt) (h : p.ok) (hp : 0 < p.frames) : p.shedOnce.ok ∧ p.shedOnce.frames + 1 = p.frames ∧ (p.bk p.fullest).drop.2.1 = true := by
  obtain ⟨hb, hq⟩ := p.fullest_is h hp
  have hpf := p.put_frames p.fullest (p.bk p.fullest).drop.2.2 hb
  obtain ⟨f, l, hq2⟩ : ∃ f l, (p.bk p.fullest).q = f :: l := by
    rcases hx : (p.bk p.fullest).q with _ | ⟨f, l⟩
    · exact absurd hx hq
    · exact ⟨f, l, rfl⟩
  have hd : (p.bk p.fullest).drop = (f, true, { p.bk p.fullest with q := l }) := by unfold Bk.drop; rw [hq2]
  have hfr : p.shedOnce.frames = (p.put p.fullest (p.bk p.fullest).drop.2.2).frames := rfl
  have hlen : (p.bk p.fullest).drop.2.2.q.length + 1 = (p.bk p.fullest).q.length := by rw [hd, hq2]; simp
  have hF : p.shedOnce.frames + 1 = p.frames := by omega
  have hfs : f.s.size ≤ 200 := by
    have := ((h.bk p.fullest).one f (by rw [hq2]; simp)).2
    have := h.c.l2
    omega
  refine ⟨⟨h.c, h.now, p.put_bk _ _ _ _ _ h.bk ((p.bk p.fullest).drop_ok _ _ _ (h.bk _)), by have := h.fr; omega, h.tn, h.up, ?_, ?_⟩, hF, by rw [hd]⟩
  · intro e he
    have he2 : e ∈ p.done ++ [⟨p.now, 3, (p.bk p.fullest).drop.1.id, p.fullest, (p.bk p.fullest).drop.1.s⟩] := he
    simp only [List.mem_append, List.mem_singleton] at he2
    rcases he2 with he2 | rfl
    · exact h.ev e he2
    · rw [hd]; exact ⟨by simp, by simp, hfs⟩
  · have e1 : p.shedOnce.done.length = p.done.length + 1 := by
      show (p.done ++ [_].map _).length = _
      simp
    have e2 : p.shedOnce.ids = p.ids := rfl
    have := h.dn
    omega

/-- What stays, and what is told. -/
structure Pt.goes (p p' : Pt) : Prop where
  c : p'.c = p.c
  now : p'.now = p.now
  ids : p'.ids = p.ids
  done : ∃ l, p'.done = p.done ++ l

theorem Pt.goes.refl (p : Pt) : p.goes p := ⟨rfl, rfl, rfl, [], by simp⟩
theorem Pt.goes.trans {p q r : Pt} (h : p.goes q) (k : q.goes r) : p.goes r := by
  obtain ⟨l, hl⟩ := h.done
  obtain ⟨m, hm⟩ := k.done
  exact ⟨k.c.trans h.c, k.now.trans h.now, k.ids.trans h.ids, l ++ m, by rw [hm, hl, List.append_assoc]⟩

theorem Pt.shedOnce_goes (p : Pt) : p.goes p.shedOnce := ⟨rfl, rfl, rfl, _, rfl⟩

theorem Pt.sheds_ok : ∀ (n : Nat) (p : Pt), p.ok → (Pt.sheds n p).ok ∧ p.goes (Pt.sheds n p) ∧ (p.frames ≤ n → (Pt.sheds n p).tooMuch = false) ∧ (Pt.sheds n p).frames ≤ p.frames ∧ (Pt.sheds n p).busy = p.busy ∧ (Pt.sheds n p).upto = p.upto ∧ (Pt.sheds n p).tn = p.tn := by
  intro n
  induction n with
  | zero =>
    intro p h
    refine ⟨h, Pt.goes.refl p, fun hn => ?_, Nat.le_refl _, rfl, rfl, rfl⟩
    show p.tooMuch = false
    cases ht : p.tooMuch with
    | false => rfl
    | true => have := p.frames_pos h ht; omega
  | succ n ih =>
    intro p h
    rw [Pt.sheds]
    cases ht : p.tooMuch with
    | false => rw [if_neg (by simp)]; exact ⟨h, Pt.goes.refl p, fun _ => ht, Nat.le_refl _, rfl, rfl, rfl⟩
    | true =>
      rw [if_pos rfl]
      have hp := p.frames_pos h ht
      obtain ⟨h1, h2, _⟩ := p.shedOnce_ok h hp
      obtain ⟨a, b, c, d, e, f, g⟩ := ih _ h1
      exact ⟨a, p.shedOnce_goes.trans b, fun hn => c (by omega), by omega, e, f, g⟩

theorem Pt.tooMuch_no (p : Pt) (h : p.ok) (ht : p.tooMuch = false) : p.frames ≤ 64 := by
  unfold Pt.tooMuch at ht
  simp only [Bool.or_eq_false_iff, decide_eq_false_iff_not] at ht
  have := h.c.p2
  omega

end Go.Proofs.Ytnkicbopebgppaa

namespace Go.Proofs.Ytnkicbopebgppaa
open Fl

theorem mem_happens {p : Pt} {kind b : Nat} {l : List Fm} {e : Ev} (h : e ∈ (p.happens kind b l).done) : e ∈ p.done ∨ ∃ f ∈ l, e = ⟨p.now, kind, f.id, b, f.s⟩ := by
  have h2 : e ∈ p.done ++ l.map (fun f => (⟨p.now, kind, f.id, b, f.s⟩ : Ev)) := h
  simp only [List.mem_append, List.mem_map] at h2
  rcases h2 with h2 | ⟨f, hf, rfl⟩
  · exact .inl h2
  · exact .inr ⟨f, hf, rfl⟩

/-- What serving comes to. -/
structure ServeIs (p p' : Pt) (b : Bool) : Prop where
  ok : p'.ok
  goes : p.goes p'
  frames : p'.frames ≤ p.frames
  yes : b = true → p'.busy = true ∧ p'.frames < p.frames
  no : b = false → p'.busy = p.busy ∧ p'.tn.size < p.tn.size

theorem Pt.serve_is (p : Pt) (h : p.ok) (hf : p.tn.first.2 = true) (hd : 0 < p.tn.deficit p.tn.first.1) : ServeIs p p.serve.1 p.serve.2 := by
  have hb := h.tn.first_lt hf
  have G := (p.bk p.tn.first.1).giveUp_is p.c p.now p.ids h.c (h.bk _)
  have hl := h.c.l2
  have hu := h.c.u2
  have hdn := h.dn
  have hfr := h.fr
  unfold Pt.serve
  rcases hR : (p.bk p.tn.first.1).giveUp p.c p.now with ⟨k, d, f, fd, m⟩
  rw [hR] at G
  have g1 := G.ok
  have g2 := G.no
  have g3 := G.yes
  have g4 := G.sub
  simp only at g1 g2 g3 g4
  have hpf := p.put_frames p.tn.first.1 k hb
  have hbk := p.put_bk p.tn.first.1 k _ _ _ h.bk g1
  have hev4 : ∀ e ∈ ((p.put p.tn.first.1 k).happens 4 p.tn.first.1 d).done, 1 ≤ e.kind ∧ e.kind ≤ 5 ∧ e.s.size ≤ 200 := by
    intro e he
    rcases mem_happens he with he | ⟨x, hx, rfl⟩
    · exact h.ev e he
    · exact ⟨by simp, by simp, by have := g4 x hx; show x.s.size ≤ 200; omega⟩
  have hdl : ((p.put p.tn.first.1 k).happens 4 p.tn.first.1 d).done.length = p.done.length + d.length := by
    show (p.done ++ d.map _).length = _
    simp
  unfold Pt.served
  simp only
  cases hfd : fd with
  | true =>
    rw [if_pos rfl]
    obtain ⟨e1, e2, e3⟩ := g3 hfd
    have hsz : f.s.size ≤ 200 := by omega
    have hmul : f.s.size * p.c.tau ≤ 200 * 1048576 := Nat.mul_le_mul hsz hu
    refine ⟨⟨h.c, h.now, hbk, ?_, ?_, ?_, ?_, ?_⟩, ⟨rfl, rfl, rfl, ?_⟩, ?_, fun _ => ⟨rfl, ?_⟩, fun e => by simp at e⟩
    · show (p.put p.tn.first.1 k).frames ≤ 65
      omega
    · exact p.tn.pay_good _ _ _ h.tn hd hsz
    · intro _
      exact ⟨by show p.now ≤ p.now + _; omega, by show p.now + f.s.size * p.c.tau ≤ p.now + 209715200; omega⟩
    · intro e he
      rcases mem_happens he with he | ⟨x, hx, rfl⟩
      · exact hev4 e he
      · simp only [List.mem_singleton] at hx
        subst hx
        refine ⟨?_, ?_, hsz⟩
        · show 1 ≤ (if m = true then 2 else 1); split <;> omega
        · show (if m = true then 2 else 1) ≤ 5; split <;> omega
    · show (((p.put p.tn.first.1 k).happens 4 p.tn.first.1 d).done ++ [f].map _).length + (p.put p.tn.first.1 k).frames ≤ p.ids
      rw [List.length_append, hdl]
      simp
      omega
    · exact ⟨d.map (fun f => ⟨p.now, 4, f.id, p.tn.first.1, f.s⟩) ++ [f].map (fun f => ⟨p.now, if m = true then 2 else 1, f.id, p.tn.first.1, f.s⟩), by simp only [Pt.happens, Pt.put, List.append_assoc]⟩
    · show (p.put p.tn.first.1 k).frames ≤ _
      omega
    · show (p.put p.tn.first.1 k).frames < _
      omega
  | false =>
    rw [if_neg (by simp)]
    obtain ⟨e1, e2⟩ := g2 hfd
    have e3 : (p.bk p.tn.first.1).q.length = d.length := by rw [e1]
    have e4 : k.q.length = 0 := by rw [e2]; rfl
    have L := p.tn.leave_good _ h.tn hf
    refine ⟨⟨h.c, h.now, hbk, ?_, L.1, h.up, hev4, ?_⟩, ⟨rfl, rfl, rfl, ⟨_, rfl⟩⟩, ?_, fun e => by simp at e, fun _ => ⟨rfl, L.2⟩⟩
    · show (p.put p.tn.first.1 k).frames ≤ 65
      omega
    · show ((p.put p.tn.first.1 k).happens 4 p.tn.first.1 d).done.length + (p.put p.tn.first.1 k).frames ≤ p.ids
      rw [hdl]; omega
    · show (p.put p.tn.first.1 k).frames ≤ _
      omega

theorem Tn.pass_no {t : Tn} (h : t.passB = false) (hf : t.first.2 = true) : 0 < t.deficit t.first.1 := by
  unfold Tn.passB at h
  rw [hf] at h
  simp at h
  exact h

theorem Tn.size_zero {t : Tn} (h : t.size = 0) : t.first.2 = false := by
  unfold Tn.size at h
  rcases t.first_cases with ⟨e, _⟩ | ⟨x, l, e1, _⟩ | ⟨x, l, e1, e2, _⟩
  · rw [e]
  · rw [e1] at h; simp at h
  · rw [e2] at h; simp at h

theorem Pt.next_ok (p : Pt) (h : p.ok) : Pt.ok { p with tn := p.tn.next p.c.quantum } := by
  have N := p.tn.next_is p.c.buckets p.c.quantum h.tn h.c.b2 h.c.q1 h.c.q2
  exact ⟨h.c, h.now, h.bk, h.fr, N.2.1, h.up, h.ev, h.dn⟩

/-- What feeding comes to: the fuel that is enough. -/
structure FeedIs (p p' : Pt) : Prop where
  ok : p'.ok
  goes : p.goes p'
  frames : p'.frames ≤ p.frames
  sent : p'.busy = p.busy ∨ p'.busy = true ∧ p'.frames < p.frames

theorem Pt.feeds_is : ∀ (n : Nat) (p : Pt), p.ok → FeedIs p (Pt.feeds n p) := by
  intro n
  induction n with
  | zero => intro p h; exact ⟨h, Pt.goes.refl p, Nat.le_refl _, .inl rfl⟩
  | succ n ih =>
    intro p h
    have N := p.tn.next_is p.c.buckets p.c.quantum h.tn h.c.b2 h.c.q1 h.c.q2
    have h1 := p.next_ok h
    rw [Pt.feeds]
    by_cases hf : (p.tn.next p.c.quantum).first.2 = false
    · rw [if_pos hf]
      exact ⟨h1, ⟨rfl, rfl, rfl, [], by simp⟩, Nat.le_refl _, .inl rfl⟩
    · rw [if_neg hf]
      have hf' : (p.tn.next p.c.quantum).first.2 = true := by simpa using hf
      have S := Pt.serve_is { p with tn := p.tn.next p.c.quantum } h1 hf' (Tn.pass_no N.1 hf')
      rcases hs : Pt.serve { p with tn := p.tn.next p.c.quantum } with ⟨p1, b⟩
      rw [hs] at S
      have g0 : p.goes { p with tn := p.tn.next p.c.quantum } := ⟨rfl, rfl, rfl, [], by simp⟩
      cases b with
      | true => exact ⟨S.ok, g0.trans S.goes, S.frames, .inr (S.yes rfl)⟩
      | false =>
        have F := ih p1 S.ok
        refine ⟨F.ok, (g0.trans S.goes).trans F.goes, Nat.le_trans F.frames S.frames, ?_⟩
        have e := (S.no rfl).1
        rcases F.sent with e2 | ⟨e2, e3⟩
        · exact .inl (e2.trans e)
        · exact .inr ⟨e2, Nat.lt_of_lt_of_le e3 S.frames⟩

theorem Pt.feed_is (p : Pt) (h : p.ok) : FeedIs p p.feed := Pt.feeds_is _ p h

/-- More fuel than the lists are long is of no use. -/
theorem Pt.feeds_more : ∀ (n : Nat) (p : Pt), p.ok → p.tn.size < n → ∀ m, p.tn.size < m → Pt.feeds m p = Pt.feeds n p := by
  intro n
  induction n with
  | zero => intro p _ h; omega
  | succ n ih =>
    intro p h hn m hm
    obtain ⟨m, rfl⟩ : ∃ k, m = k + 1 := ⟨m - 1, by omega⟩
    have N := p.tn.next_is p.c.buckets p.c.quantum h.tn h.c.b2 h.c.q1 h.c.q2
    rw [Pt.feeds, Pt.feeds]
    by_cases hf : (p.tn.next p.c.quantum).first.2 = false
    · rw [if_pos hf, if_pos hf]
    · rw [if_neg hf, if_neg hf]
      have hf' : (p.tn.next p.c.quantum).first.2 = true := by simpa using hf
      have S := Pt.serve_is { p with tn := p.tn.next p.c.quantum } (p.next_ok h) hf' (Tn.pass_no N.1 hf')
      rcases hs : Pt.serve { p with tn := p.tn.next p.c.quantum } with ⟨p1, b⟩
      rw [hs] at S
      cases b with
      | true => rfl
      | false =>
        have e : p1.tn.size < (p.tn.next p.c.quantum).size := (S.no rfl).2
        exact ih p1 S.ok (by omega) m (by omega)

/-- The small steps of the link come to what feeding comes to. -/
theorem Pt.links_nexts : ∀ (m : Nat) (p : Pt), p.ok → p.tn.pot ≤ m → ∃ j, ∀ n, Pt.links (j + n) p = Pt.links n { p with tn := Tn.nexts p.c.quantum m p.tn } := by
  intro m
  induction m with
  | zero => intro p _ _; exact ⟨0, fun n => by rw [Nat.zero_add]; rfl⟩
  | succ m ih =>
    intro p h hm
    cases hp : p.tn.passB with
    | false => exact ⟨0, fun n => by rw [Nat.zero_add, Tn.nexts_stop _ _ _ hp]⟩
    | true =>
      have hp2 := hp
      unfold Tn.passB at hp2
      simp only [Bool.and_eq_true, decide_eq_true_eq] at hp2
      have h1 := p.tn.turnOnce_pot _ p.c.quantum h.tn h.c.b2 hp h.c.q1
      have h2 := p.tn.turnOnce_good _ p.c.quantum h.tn hp h.c.q2
      have hok : Pt.ok { p with tn := p.tn.turnOnce p.c.quantum } := ⟨h.c, h.now, h.bk, h.fr, h2, h.up, h.ev, h.dn⟩
      have hlt : (p.tn.turnOnce p.c.quantum).pot ≤ m := by omega
      obtain ⟨j, hj⟩ := ih { p with tn := p.tn.turnOnce p.c.quantum } hok hlt
      refine ⟨j + 1, fun n => ?_⟩
      rw [show j + 1 + n = (j + n) + 1 by omega, Pt.links]
      have hl : Pt.look p = ({ p with tn := p.tn.turnOnce p.c.quantum }, false) := by
        unfold Pt.look
        rw [if_neg (by simp [hp2.1]), if_pos hp2.2]
      rw [hl]
      simp only
      rw [hj n, Tn.nexts, if_pos hp]

theorem Pt.links_is : ∀ (n : Nat) (p : Pt), p.ok → p.tn.size < n → ∃ j, Pt.links j p = (Pt.feeds n p, true) := by
  intro n
  induction n with
  | zero => intro p _ h; omega
  | succ n ih =>
    intro p h hn
    have N := p.tn.next_is p.c.buckets p.c.quantum h.tn h.c.b2 h.c.q1 h.c.q2
    obtain ⟨j, hj⟩ := p.links_nexts p.tn.pot h (Nat.le_refl _)
    rw [Pt.feeds]
    by_cases hf : (p.tn.next p.c.quantum).first.2 = false
    · rw [if_pos hf]
      refine ⟨j + 1, ?_⟩
      rw [hj 1]
      show (match Pt.look { p with tn := p.tn.next p.c.quantum } with | (p1, true) => (p1, true) | (p1, false) => Pt.links 0 p1) = _
      unfold Pt.look
      rw [if_pos hf]
    · rw [if_neg hf]
      have hf' : (p.tn.next p.c.quantum).first.2 = true := by simpa using hf
      have hd := Tn.pass_no N.1 hf'
      have S := Pt.serve_is { p with tn := p.tn.next p.c.quantum } (p.next_ok h) hf' hd
      have hl : Pt.look { p with tn := p.tn.next p.c.quantum } = Pt.serve { p with tn := p.tn.next p.c.quantum } := by
        unfold Pt.look
        rw [if_neg hf, if_neg (fun e => absurd hd (Int.not_lt.2 e))]
      rcases hs : Pt.serve { p with tn := p.tn.next p.c.quantum } with ⟨p1, b⟩
      rw [hs] at S hl
      cases b with
      | true =>
        refine ⟨j + 1, ?_⟩
        rw [hj 1]
        show (match Pt.look { p with tn := p.tn.next p.c.quantum } with | (p1, true) => (p1, true) | (p1, false) => Pt.links 0 p1) = _
        rw [hl]
      | false =>
        have e : p1.tn.size < (p.tn.next p.c.quantum).size := (S.no rfl).2
        obtain ⟨i, hi⟩ := ih p1 S.ok (by omega)
        refine ⟨j + (i + 1), ?_⟩
        rw [hj (i + 1)]
        show (match Pt.look { p with tn := p.tn.next p.c.quantum } with | (p1, true) => (p1, true) | (p1, false) => Pt.links i p1) = _
        rw [hl]
        exact hi

theorem Pt.link_is (p : Pt) (h : p.ok) : ∃ j, Pt.links j p = (p.feed, true) := Pt.links_is _ p h (Nat.lt_succ_self _)

end Go.Proofs.Ytnkicbopebgppaa

namespace Go.Proofs.Ytnkicbopebgppaa
open Fl

theorem Pt.at_ok (p : Pt) (h : p.ok) (t : Nat) (h1 : p.now ≤ t) (h2 : t ≤ 4611686018427387904) : Pt.ok { p with now := t, busy := false } :=
  ⟨h.c, h2, fun i => (h.bk i).mono h1 (Nat.le_refl _), h.fr, h.tn, fun e => by simp at e, h.ev, h.dn⟩

/-- What time's going by comes to. -/
structure RunIs (stop : Nat) (p p' : Pt) : Prop where
  ok : p'.ok
  c : p'.c = p.c
  ids : p'.ids = p.ids
  done : ∃ l, p'.done = p.done ++ l
  frames : p'.frames ≤ p.frames
  lo : p.now ≤ p'.now
  hi : p'.now ≤ stop

theorem Pt.runs_is (stop : Nat) (hs : stop ≤ 4611686018427387904) : ∀ (n : Nat) (p : Pt), p.ok → p.now ≤ stop → RunIs stop p (Pt.runs stop n p) := by
  intro n
  induction n with
  | zero => intro p h hp; exact ⟨h, rfl, rfl, ⟨[], by simp [Pt.runs]⟩, Nat.le_refl _, Nat.le_refl _, hp⟩
  | succ n ih =>
    intro p h hp
    rw [Pt.runs]
    by_cases hg : p.busy = true ∧ p.upto ≤ stop
    · rw [if_pos hg]
      have hu := (h.up hg.1).1
      have h1 := p.at_ok h p.upto hu (by omega)
      have F := Pt.feed_is _ h1
      have hnow : (Pt.feed { p with now := p.upto, busy := false }).now = p.upto := F.goes.now
      have R := ih _ F.ok (by rw [hnow]; exact hg.2)
      have hrl := R.lo
      have hrf := R.frames
      have hff : (Pt.feed { p with now := p.upto, busy := false }).frames ≤ p.frames := F.frames
      obtain ⟨l1, e1⟩ := F.goes.done
      obtain ⟨l2, e2⟩ := R.done
      exact ⟨R.ok, R.c.trans F.goes.c, R.ids.trans F.goes.ids, ⟨l1 ++ l2, by rw [e2, e1, List.append_assoc]⟩, by omega, by omega, R.hi⟩
    · rw [if_neg hg]
      exact ⟨h, rfl, rfl, ⟨[], by simp⟩, Nat.le_refl _, Nat.le_refl _, hp⟩

/-- The fuel is enough. -/
theorem Pt.runs_stop (stop : Nat) (hs : stop ≤ 4611686018427387904) : ∀ (n : Nat) (p : Pt), p.ok → p.now ≤ stop → p.frames < n → ¬ ((Pt.runs stop n p).busy = true ∧ (Pt.runs stop n p).upto ≤ stop) := by
  intro n
  induction n with
  | zero => intro p _ _ h; omega
  | succ n ih =>
    intro p h hp hn
    rw [Pt.runs]
    by_cases hg : p.busy = true ∧ p.upto ≤ stop
    · rw [if_pos hg]
      have hu := (h.up hg.1).1
      have h1 := p.at_ok h p.upto hu (by omega)
      have F := Pt.feed_is _ h1
      have hnow : (Pt.feed { p with now := p.upto, busy := false }).now = p.upto := F.goes.now
      rcases F.sent with e | ⟨_, e⟩
      · have hb : (Pt.feed { p with now := p.upto, busy := false }).busy = false := e
        cases n with
        | zero => rw [Pt.runs, hb]; simp
        | succ n => rw [Pt.runs, if_neg (by rw [hb]; simp), hb]; simp
      · have e' : (Pt.feed { p with now := p.upto, busy := false }).frames < p.frames := e
        exact ih _ F.ok (by rw [hnow]; exact hg.2) (by omega)
    · rw [if_neg hg]; exact hg

theorem Pt.advance_ok (p : Pt) (h : p.ok) (n : Nat) (hn : p.now + n ≤ 4611686018427387904) : (p.advance n).ok ∧ (p.advance n).c = p.c ∧ (p.advance n).ids = p.ids ∧ (∃ l, (p.advance n).done = p.done ++ l) ∧ (p.advance n).frames ≤ p.frames := by
  have R := Pt.runs_is (p.now + n) hn (p.frames + 1) p h (by omega)
  have S := Pt.runs_stop (p.now + n) hn (p.frames + 1) p h (by omega) (by omega)
  unfold Pt.advance
  have hr := R.hi
  refine ⟨⟨R.ok.c, hn, fun i => (R.ok.bk i).mono R.hi (Nat.le_refl _), R.ok.fr, R.ok.tn, fun e => ?_, R.ok.ev, R.ok.dn⟩, R.c, R.ids, R.done, R.frames⟩
  have hb := R.ok.up e
  have : ¬ (Pt.runs (p.now + n) (p.frames + 1) p).upto ≤ p.now + n := fun e2 => S ⟨e, e2⟩
  refine ⟨?_, ?_⟩
  · show p.now + n ≤ (Pt.runs (p.now + n) (p.frames + 1) p).upto
    omega
  · show (Pt.runs (p.now + n) (p.frames + 1) p).upto ≤ p.now + n + 209715200
    omega

theorem place_lt (c : Cf) (s : ByteArray) (hc : c.ok) : place c s < c.buckets := by
  have h := hc.b1
  have hs : sipHash c.key (flowOf s) / 4294967296 < 4294967296 := by have := sipHash_lt c.key (flowOf s); omega
  unfold place
  exact Nat.div_lt_of_lt_mul ((Nat.mul_lt_mul_right h).2 hs)

theorem Pt.joined_ok (p : Pt) (h : p.ok) (h64 : p.frames ≤ 64) (b : Nat) (s : ByteArray) (hb : b < p.c.buckets) (hs1 : 1 ≤ s.size) (hs2 : s.size ≤ p.c.length) : (p.joined b s).ok ∧ (p.joined b s).frames = p.frames + 1 := by
  have hf : (p.joined b s).frames + (p.bk b).q.length = p.frames + ((p.bk b).q ++ [(⟨p.ids, s, p.now⟩ : Fm)]).length := p.put_frames b { p.bk b with q := (p.bk b).q ++ [⟨p.ids, s, p.now⟩] } hb
  simp only [List.length_append, List.length_cons, List.length_nil] at hf
  have hF : (p.joined b s).frames = p.frames + 1 := by omega
  have hk := h.bk b
  have hk2 : ({ p.bk b with q := (p.bk b).q ++ [⟨p.ids, s, p.now⟩] } : Bk).ok p.c p.now (p.ids + 1) := by
    refine ⟨fun x hx => ?_, fun x hx => ?_, hk.ab, hk.ab1, hk.nx, ?_, hk.la⟩
    · simp only [List.mem_append, List.mem_singleton] at hx
      rcases hx with hx | rfl
      · exact hk.one x hx
      · exact ⟨hs1, hs2⟩
    · simp only [List.mem_append, List.mem_singleton] at hx
      rcases hx with hx | rfl
      · exact hk.si x hx
      · exact Nat.le_refl _
    · have := hk.cn
      simp only [List.length_append, List.length_cons, List.length_nil]
      omega
  refine ⟨⟨h.c, h.now, p.put_bk b _ _ _ _ (fun i => (h.bk i).mono (Nat.le_refl _) (Nat.le_succ _)) hk2, by omega, p.tn.enter_good _ _ _ h.tn hb h.c.q2, h.up, h.ev, ?_⟩, hF⟩
  show p.done.length + (p.joined b s).frames ≤ p.ids + 1
  have := h.dn
  omega

theorem Pt.shed_ok (p : Pt) (h : p.ok) : p.shed.ok ∧ p.goes p.shed ∧ p.shed.frames ≤ 64 ∧ p.shed.busy = p.busy ∧ p.shed.upto = p.upto ∧ p.shed.tn = p.tn := by
  obtain ⟨a, b, c, _, e, f, g⟩ := Pt.sheds_ok p.frames p h
  exact ⟨a, b, Pt.tooMuch_no _ a (c (Nat.le_refl _)), e, f, g⟩

theorem Pt.fed_ok (p : Pt) (h : p.ok) : p.fedIfIdle.ok ∧ p.goes p.fedIfIdle ∧ p.fedIfIdle.frames ≤ p.frames := by
  unfold Pt.fedIfIdle
  split
  · exact ⟨h, Pt.goes.refl p, Nat.le_refl _⟩
  · have F := p.feed_is h
    exact ⟨F.ok, F.goes, F.frames⟩

theorem Pt.arrive_ok (p : Pt) (h : p.ok) (h64 : p.frames ≤ 64) (s : ByteArray) (hs1 : 1 ≤ s.size) (hs2 : s.size ≤ p.c.length) : (p.arrive s).ok ∧ (p.arrive s).frames ≤ 64 ∧ (p.arrive s).c = p.c ∧ (p.arrive s).now = p.now ∧ (p.arrive s).ids = p.ids + 1 ∧ ∃ l, (p.arrive s).done = p.done ++ l := by
  have hb := place_lt p.c s h.c
  obtain ⟨h1, _⟩ := p.joined_ok h h64 (place p.c s) s hb hs1 hs2
  obtain ⟨h2, g2, f2, _⟩ := Pt.shed_ok _ h1
  obtain ⟨h3, g3, f3⟩ := Pt.fed_ok _ h2
  have g := g2.trans g3
  exact ⟨h3, Nat.le_trans f3 f2, g.c, g.now, g.ids, g.done⟩

theorem flushEv_ok (p : Pt) (h : p.ok) : ∀ n, (∀ e ∈ flushEv p.now p.bk n, 1 ≤ e.kind ∧ e.kind ≤ 5 ∧ e.s.size ≤ 200) ∧ (flushEv p.now p.bk n).length = framesTo p.bk n := by
  intro n
  have hl := h.c.l2
  induction n with
  | zero => exact ⟨by simp [flushEv], rfl⟩
  | succ n ih =>
    refine ⟨fun e he => ?_, ?_⟩
    · rw [flushEv] at he
      simp only [List.mem_append, List.mem_map] at he
      rcases he with he | ⟨f, hf, rfl⟩
      · exact ih.1 e he
      · exact ⟨by simp, by simp, by have := ((h.bk n).one f hf).2; show f.s.size ≤ 200; omega⟩
    · rw [flushEv, framesTo, List.length_append, ih.2, List.length_map]

theorem framesTo_none : ∀ n, framesTo (fun _ => newBk) n = 0 := by
  intro n
  induction n with
  | zero => rfl
  | succ n ih => rw [framesTo, ih]; rfl

theorem Pt.renew_ok (p : Pt) (h : p.ok) (c : Cf) (hc : c.ok) : (p.flush.renew c).ok ∧ (p.flush.renew c).frames = 0 := by
  obtain ⟨e1, e2⟩ := flushEv_ok p h p.c.buckets
  have h0 : (p.flush.renew c).frames = 0 := framesTo_none _
  refine ⟨⟨hc, h.now, fun i => newBk_ok _ _ _, by omega, newTn_good _, h.up, fun e he => ?_, ?_⟩, h0⟩
  · have he2 : e ∈ p.done ++ flushEv p.now p.bk p.c.buckets := he
    rcases List.mem_append.1 he2 with he2 | he2
    · exact h.ev e he2
    · exact e1 e he2
  · rw [h0]
    show (p.done ++ flushEv p.now p.bk p.c.buckets).length + 0 ≤ p.ids
    have := h.dn
    have e3 : p.frames = framesTo p.bk p.c.buckets := rfl
    rw [List.length_append, e2]
    omega

theorem Pt.configure_ok (p : Pt) (h : p.ok) (c : Cf) (hc : c.ok) : (p.configure c).ok ∧ (p.configure c).frames ≤ 64 ∧ (p.configure c).c = c ∧ (p.configure c).ids = p.ids ∧ (p.configure c).now = p.now ∧ ∃ l, (p.configure c).done = p.done ++ l := by
  unfold Pt.configure
  split
  · rename_i hk
    have e1 : c.buckets = p.c.buckets := hk.1
    have h1 : Pt.ok { p with c := c, tn := p.tn.limitTo c.quantum 16 } := by
      refine ⟨hc, h.now, fun i => ?_, ?_, ?_, h.up, h.ev, ?_⟩
      · have hb := h.bk i
        exact ⟨fun x hx => by have := hb.one x hx; rw [← hk.2.2] at this; exact this, hb.si, hb.ab, hb.ab1, hb.nx, hb.cn, hb.la⟩
      · show framesTo p.bk c.buckets ≤ 65
        rw [e1]; exact h.fr
      · show (p.tn.limitTo c.quantum 16).good c.buckets
        rw [e1]; exact p.tn.limit_good _ _ _ h.tn hc.q2
      · show p.done.length + framesTo p.bk c.buckets ≤ p.ids
        rw [e1]; exact h.dn
    obtain ⟨a, b, d, _⟩ := Pt.shed_ok _ h1
    exact ⟨a, d, b.c, b.ids, b.now, b.done⟩
  · obtain ⟨a, b⟩ := p.renew_ok h c hc
    exact ⟨a, by omega, rfl, rfl, rfl, _, rfl⟩

theorem Pt.reset_ok (p : Pt) (h : p.ok) (key : ByteArray) (hk : key.size = 16) : (p.reset key).ok ∧ (p.reset key).frames = 0 := by
  have hc : Cf.ok { p.c with key := key } := ⟨h.c.b1, h.c.b2, h.c.q1, h.c.q2, h.c.p1, h.c.p2, h.c.l1, h.c.l2, h.c.m1, h.c.m2, h.c.t1, h.c.t2, h.c.i2, h.c.u1, h.c.u2, hk⟩
  obtain ⟨a, b⟩ := p.renew_ok h _ hc
  refine ⟨⟨a.c, a.now, a.bk, a.fr, a.tn, a.up, fun e he => by simp [Pt.reset] at he, ?_⟩, b⟩
  show 0 + (p.flush.renew { p.c with key := key }).frames ≤ p.ids
  omega

theorem outOf_le : ∀ l : List Ev, (∀ e ∈ l, e.s.size ≤ 200) → outOf l ≤ 200 * l.length := by
  intro l
  induction l with
  | nil => intro _; simp [outOf]
  | cons e l ih =>
    intro h
    have h1 := h e (by simp)
    have h2 := ih (fun x hx => h x (by simp [hx]))
    rw [outOf, List.length_cons]
    split <;> omega

theorem countOf_le (l : List Ev) (k : Nat) : countOf l k ≤ l.length := List.length_filter_le _ _

theorem outOf_append (a b : List Ev) : outOf (a ++ b) = outOf a + outOf b := by
  induction a with
  | nil => simp [outOf]
  | cons e a ih => rw [List.cons_append, outOf, outOf, ih]; omega

theorem countOf_append (a b : List Ev) (k : Nat) : countOf (a ++ b) k = countOf a k + countOf b k := by simp [countOf]

end Go.Proofs.Ytnkicbopebgppaa

namespace Go.Proofs.Ytnkicbopebgppaa
open Go.RowKit Fl

/-- A configuration's ten cells. -/
def cfF (c : Cf) : Nat → Value
  | 0 => .int .i64 c.buckets
  | 1 => .int .i64 c.quantum
  | 2 => .int .i64 c.packets
  | 3 => .int .i64 c.memory
  | 4 => .int .i64 c.length
  | 5 => .int .i64 c.target
  | 6 => .int .i64 c.interval
  | 7 => .int .i64 c.tau
  | 8 => .bool c.ecn
  | _ => .string c.key

/-- Where a port lies: under the tags T to T + 19. -/
structure PtIs (own : Nat → Nat) (w : World) (T a g : Nat) (fP : Nat → Value) (vF vO : Value) (fB vq : Nat → Value) (cn : Nat → Nat) (p : Pt) : Prop where
  tn : TnAt own w T (T + 2) (T + 3) a 63 55 14 fP vF vO p.tn
  cf : ∀ i, i < 10 → fP i = cfF p.c i
  c10 : fP 10 = .int .i64 p.now
  c11 : fP 11 = .bool p.busy
  c12 : fP 12 = .int .i64 p.upto
  c13 : fP 13 = .slice (some ⟨g, 0, none⟩) p.c.buckets p.c.buckets
  cnt : ∀ i, i < 7 → fP (48 + i) = .int .i64 (cn i : Nat)
  bk : ∀ i, i < p.c.buckets → BkAt own w (T + 1) (T + 4 + i) g 95 (p.c.buckets * 8) (i * 8) fB (vq i) (p.bk i)

/-- The same, with counts that need not be those of the events. -/
def PcAt (own : Nat → Nat) (w : World) (T a : Nat) (cn : Nat → Nat) (p : Pt) : Prop := ∃ g fP vF vO fB vq, PtIs own w T a g fP vF vO fB vq cn p

def PtAt (own : Nat → Nat) (w : World) (T a : Nat) (p : Pt) : Prop := PcAt own w T a p.counts p

section
variable {own own' : Nat → Nat} {w w' : World} {T a g : Nat} {fP : Nat → Value} {vF vO : Value} {fB vq : Nat → Value} {cn : Nat → Nat} {p : Pt}

theorem PtIs.fr {TT : Nat → Prop} (h : PtIs own w T a g fP vF vO fB vq cn p) (k : Fr TT own own' w w') (hT : ∀ t, T ≤ t → t < T + 20 → ¬ TT t) (hb : p.c.buckets ≤ 16) : PtIs own' w' T a g fP vF vO fB vq cn p :=
  ⟨h.tn.fr k (hT _ (by omega) (by omega)) (hT _ (by omega) (by omega)) (hT _ (by omega) (by omega)), h.cf, h.c10, h.c11, h.c12, h.c13, h.cnt,
    fun i hi => (h.bk i hi).fr k (hT _ (by omega) (by omega)) (hT _ (by omega) (by omega))⟩

theorem PtIs.below (h : PtIs own w T a g fP vF vO fB vq cn p) (k : Below w.heap.size w w') (hb : p.c.buckets ≤ 16) : PtIs own w' T a g fP vF vO fB vq cn p :=
  h.fr (TT := fun _ => False) (Fr.below k) (fun _ _ _ => id) hb

theorem PtIs.cell (h : PtIs own w T a g fP vF vO fB vq cn p) (i : Nat) (hi : i < 55) : w.cell? ⟨a, i, none⟩ = some (fP i) := h.tn.row.row.cell hi

theorem PtIs.lt (h : PtIs own w T a g fP vF vO fB vq cn p) : a < w.heap.size := h.tn.row.row.lt
theorem PtIs.frozen (h : PtIs own w T a g fP vF vO fB vq cn p) : ∀ i, w.frozen? ⟨a, i, none⟩ = false := h.tn.row.row.frozen

/-- What becomes of one bucket. -/
theorem PtIs.put (h : PtIs own w T a g fP vF vO fB vq cn p) (i : Nat) (hi : i < p.c.buckets) (hb : p.c.buckets ≤ 16) {TT : Nat → Prop} {fB' : Nat → Value} {v' : Value} {k' : Bk}
    (hk : BkAt own' w' (T + 1) (T + 4 + i) g 95 (p.c.buckets * 8) (i * 8) fB' v' k') (ho : ∀ j, j < i * 8 ∨ i * 8 + 8 ≤ j → fB' j = fB j) (hf : Fr TT own own' w w') (hT : ∀ t, T ≤ t → t < T + 20 → t ≠ T + 1 → t ≠ T + 4 + i → ¬ TT t) :
    PtIs own' w' T a g fP vF vO fB' (fun j => if j = i then v' else vq j) cn (p.put i k') := by
  refine ⟨h.tn.fr hf (hT _ (by omega) (by omega) (by omega) (by omega)) (hT _ (by omega) (by omega) (by omega) (by omega)) (hT _ (by omega) (by omega) (by omega) (by omega)), h.cf, h.c10, h.c11, h.c12, h.c13, h.cnt, fun j hj => ?_⟩
  show BkAt own' w' (T + 1) (T + 4 + j) g _ _ (j * 8) fB' (if j = i then v' else vq j) (if j = i then k' else p.bk j)
  have hj' : j < p.c.buckets := hj
  by_cases e : j = i
  · subst e; rw [if_pos rfl, if_pos rfl]; exact hk
  · rw [if_neg e, if_neg e]
    have hB := h.bk j hj'
    exact ⟨hk.row, hB.inn, fun x hx => by rw [ho _ (by omega)]; exact hB.cells x hx, hB.sl.fr hf (hT _ (by omega) (by omega) (by omega) (by omega)), hB.ne, hB.len, hB.bytes⟩

/-- What becomes of the turns. -/
theorem PtIs.turn (h : PtIs own w T a g fP vF vO fB vq cn p) {fP' : Nat → Value} {vF' vO' : Value} {t' : Tn}
    (ht : TnAt own' w' T (T + 2) (T + 3) a 63 55 14 fP' vF' vO' t') (ho : ∀ j, j < 14 ∨ 14 + 34 ≤ j → fP' j = fP j) (hf : Fr (fun x => x = T ∨ x = T + 2 ∨ x = T + 3) own own' w w') :
    PtIs own' w' T a g fP' vF' vO' fB vq cn { p with tn := t' } :=
  ⟨ht, fun i hi => (ho i (by omega)).trans (h.cf i hi), (ho _ (by omega)).trans h.c10, (ho _ (by omega)).trans h.c11, (ho _ (by omega)).trans h.c12, (ho _ (by omega)).trans h.c13,
    fun i hi => (ho _ (by omega)).trans (h.cnt i hi), fun i hi => (h.bk i hi).fr hf (by show ¬ (T + 1 = T ∨ _); omega) (by have hi' : i < p.c.buckets := hi; show ¬ (T + 4 + i = T ∨ _); omega)⟩

/-- A store into one of the port's own cells. -/
theorem PtIs.set (h : PtIs own w T a g fP vF vO fB vq cn p) (j : Nat) (u : Value) (hj : j < 14 ∨ 48 ≤ j) {cn' : Nat → Nat} {p' : Pt} (htn : p'.tn = p.tn) (hbk : p'.bk = p.bk) (hbu : p'.c.buckets = p.c.buckets)
    (hcf : ∀ i, i < 10 → cfF p'.c i = if i = j then u else cfF p.c i) (h10 : Value.int .i64 p'.now = if 10 = j then u else .int .i64 p.now) (h11 : Value.bool p'.busy = if 11 = j then u else .bool p.busy) (h12 : Value.int .i64 p'.upto = if 12 = j then u else .int .i64 p.upto) (h13 : j ≠ 13)
    (hcn : ∀ i, i < 7 → Value.int .i64 (cn' i : Nat) = if 48 + i = j then u else .int .i64 (cn i : Nat)) :
    PtIs own (w.setCell ⟨a, j, none⟩ u) T a g (fun i => if i = j then u else fP i) vF vO fB vq cn' p' := by
  have hf : Fr (fun t => t = T) own own w (w.setCell ⟨a, j, none⟩ u) := (Fr.refl _ _ _).setCell _ _ _ h.tn.row.tag
  refine ⟨?_, fun i hi => ?_, ?_, ?_, ?_, ?_, fun i hi => ?_, fun i hi => ?_⟩
  · rw [htn]
    have ht := h.tn
    refine ⟨ht.row.set _ _, ht.inn, ?_, ?_, fun i hi => ?_, fun i hi => ?_, ht.slF.fr hf ht.n1, ht.slO.fr hf ht.n2, ht.n1, ht.n2, ht.n3, ht.bF, ht.bO, ht.lF, ht.lO⟩
    · show (if 14 = j then u else fP 14) = vF; rw [if_neg (by omega)]; exact ht.c0
    · show (if 14 + 1 = j then u else fP (14 + 1)) = vO; rw [if_neg (by omega)]; exact ht.c1
    · show (if 14 + 2 + i = j then u else fP (14 + 2 + i)) = _; rw [if_neg (by omega)]; exact ht.li i hi
    · show (if 14 + 18 + i = j then u else fP (14 + 18 + i)) = _; rw [if_neg (by omega)]; exact ht.de i hi
  · show (if i = j then u else fP i) = _; rw [hcf i hi, h.cf i hi]
  · show (if 10 = j then u else fP 10) = _; rw [h10, h.c10]
  · show (if 11 = j then u else fP 11) = _; rw [h11, h.c11]
  · show (if 12 = j then u else fP 12) = _; rw [h12, h.c12]
  · show (if 13 = j then u else fP 13) = _; rw [if_neg (fun e => h13 e.symm), hbu]; exact h.c13
  · show (if 48 + i = j then u else fP (48 + i)) = _; rw [hcn i hi, h.cnt i hi]
  · rw [hbu] at hi ⊢
    rw [hbk]
    exact (h.bk i hi).fr hf (by show ¬ (T + 1 = T); omega) (by show ¬ (T + 4 + i = T); omega)

end

/-- The tags that a port's call may turn. -/
def PTag (T te : Nat) : Nat → Prop := fun t => (T ≤ t ∧ t < T + 20) ∨ t = 1 ∨ t = te

/-- What becomes of a port, and of all else. -/
structure PtPost (own own' : Nat → Nat) (w w' : World) (T te a : Nat) (p' : Pt) : Prop where
  pt : PtAt own' w' T a p'
  fr : Fr (PTag T te) own own' w w'

/-- An event's cells. -/
def Ev.cells (e : Ev) : List Value := [.int .i64 e.time, .int .i64 e.kind, .int .i64 e.id, .int .i64 e.b, .string e.s]
def Ev.val (e : Ev) : Value := .agg #[.int .i64 e.time, .int .i64 e.kind, .int .i64 e.id, .int .i64 e.b, .string e.s]
def evCells (l : List Ev) : List Value := l.flatMap Ev.cells

/-- What a cell of an event may be. -/
def evG : Nat → Value → Prop := fun j v => if j = 4 then ∃ s : ByteArray, v = .string s else ∃ n : Int, v = .int .i64 n

end Go.Proofs.Ytnkicbopebgppaa

namespace Go.Proofs.Ytnkicbopebgppaa
open Go.RowKit Fl

set_option maxHeartbeats 400000 in
theorem pnow_any (own : Nat → Nat) (T a : Nat) (cn : Nat → Nat) (p : Pt) (w : World) (h : PcAt own w T a cn p) :
    Calls Try.prog 30 #[.pointer (some ⟨a, 0, none⟩)] w fun e w' => e = .returned (.tuple #[.int .i64 p.now, .bool p.busy]) ∧ Below w.heap.size w w' := by
  obtain ⟨g, fP, vF, vO, fB, vq, h⟩ := h
  have c10 : w.cell? ⟨a, 10, none⟩ = some (.int .i64 p.now) := (h.cell 10 (by omega)).trans (by rw [h.c10])
  have c11 : w.cell? ⟨a, 11, none⟩ = some (.bool p.busy) := (h.cell 11 (by omega)).trans (by rw [h.c11])
  clear h
  go_enter Try.func30, Try.ntmps30
  go_wp2
  go_region
  all_goals go_wp2_with fail
  all_goals go_ret2
  all_goals exact ⟨rfl, (Below.refl _ _).drew⟩

set_option maxHeartbeats 800000 in
theorem pbacklog_any (own : Nat → Nat) (T a : Nat) (cn : Nat → Nat) (p : Pt) (i : Nat) (w : World) (h : PcAt own w T a cn p) (hi : i < p.c.buckets) :
    Calls Try.prog 50 #[.pointer (some ⟨a, 0, none⟩), .int .i64 i] w fun e w' => e = .returned (.tuple #[.int .i64 ((p.bk i).q.length : Nat), .int .i64 (qBytes (p.bk i).q : Nat)]) ∧ w' = w := by
  obtain ⟨g, fP, vF, vO, fB, vq, h⟩ := h
  have c13 : w.cell? ⟨a, 13, none⟩ = some (.slice (some ⟨g, 0, none⟩) p.c.buckets p.c.buckets) := (h.cell 13 (by omega)).trans (by rw [h.c13])
  have HF : Bx _ := ⟨bframes_any own (T + 1) (T + 4 + i) g 95 (p.c.buckets * 8) (i * 8) fB (vq i) (p.bk i) w (h.bk i hi)⟩
  have HB : Bx _ := ⟨bbytes_any own (T + 1) (T + 4 + i) g 95 (p.c.buckets * 8) (i * 8) fB (vq i) (p.bk i) w (h.bk i hi)⟩
  clear h
  have i1 : ¬ ((i : Int) < 0) := by omega
  have i2 : ¬ ((p.c.buckets : Int) ≤ i) := by omega
  have i3 : (i : Int) < p.c.buckets := by omega
  go_enter Try.func50, Try.ntmps50
  go_wp2_with fail
  refine HF.out.mono ?_
  rintro e w1 ⟨rfl, rfl⟩
  go_wp2_with fail
  refine HB.out.mono ?_
  rintro e w2 ⟨rfl, rfl⟩
  go_wp2_with fail
  go_ret2
  exact ⟨rfl, rfl⟩

set_option maxHeartbeats 400000 in
theorem pbacklog_no (own : Nat → Nat) (T a : Nat) (cn : Nat → Nat) (p : Pt) (i : Int) (w : World) (h : PcAt own w T a cn p) (hi : i < 0 ∨ (p.c.buckets : Int) ≤ i) :
    Calls Try.prog 50 #[.pointer (some ⟨a, 0, none⟩), .int .i64 i] w fun e w' => e = .returned (.tuple #[.int .i64 0, .int .i64 0]) ∧ w' = w := by
  obtain ⟨g, fP, vF, vO, fB, vq, h⟩ := h
  have c13 : w.cell? ⟨a, 13, none⟩ = some (.slice (some ⟨g, 0, none⟩) p.c.buckets p.c.buckets) := (h.cell 13 (by omega)).trans (by rw [h.c13])
  clear h
  go_enter Try.func50, Try.ntmps50
  by_cases h0 : i < 0
  · go_wp2_with fail
    go_ret2
    exact ⟨rfl, rfl⟩
  · have h1 : (p.c.buckets : Int) ≤ i := by omega
    go_wp2_with fail
    go_ret2
    exact ⟨rfl, rfl⟩

end Go.Proofs.Ytnkicbopebgppaa
