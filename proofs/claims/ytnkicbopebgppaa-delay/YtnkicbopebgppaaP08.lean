import Derived.Test.YtnkicbopebgppaaP07
import Derived.Test.YtnkicbopebgppaaP05
import Derived.Test.YtnkicbopebgppaaP01
import Derived.Test.YtnkicbopebgppaaP06
import Derived.Deep.RegionHeld3
namespace Go.Proofs.Ytnkicbopebgppaa
open Go.RowKit Fl

theorem _root_.Fl.Sl.form {G : Nat → Value → Prop} {own : Nat → Nat} {w : World} {t size n : Nat} {v : Value} {xs : List Value} (h : Sl G own w t size v n xs) : ∃ a c, v = .slice a n c := by
  obtain ⟨_, h2⟩ := h
  rcases h2 with ⟨hv, hn⟩ | ⟨g, off, cap, hv, _⟩
  · exact ⟨none, 0, by rw [hv, hn]⟩
  · exact ⟨some ⟨g, off, none⟩, cap, hv⟩

set_option maxRecDepth 100000 in
set_option maxHeartbeats 6400000 in
theorem giveUp_any (own : Nat → Nat) (tB tq td b ty N o n : Nat) (f : Nat → Value) (v : Value) (k : Bk) (c : Cf) (now : Nat) (w : World) (h : BkAt own w tB tq b ty N o f v k) (hj : Junk own w) (htB : tB ≠ 0) (htq : tq ≠ 0) (htd : td ≠ 0) (htd1 : td ≠ tB) (htd2 : td ≠ tq)
    (hc : c.ok) (hnow : now ≤ 4611686018427387904) (hk : k.ok c now n) (hn : n ≤ 4000000000) (R : Bk × List Fm × Fm × Bool × Bool) (hR : Bx (k.giveUp c now = R)) :
    Calls Try.prog 63 #[.pointer (some ⟨b, o, none⟩), c.val, .int .i64 now] w fun e w' => ∃ own' dv, e = .returned (gvVal dv R.2.2.1 R.2.2.2.1 R.2.2.2.2) ∧ GvPost own own' w w' tB tq td b ty N o f R.1 dv R.2.1 := by
  have hblt := h.row.row.lt
  have hT0 : ¬ ((0 : Nat) = tB ∨ (0 : Nat) = tq ∨ (0 : Nat) = td) := by omega
  have hTT : ¬ ((0 : Nat) = tB ∨ (0 : Nat) = tq) := by omega
  have hab : k.above ≤ 9000000000000000000 := by have := hk.ab; omega
  have TI := k.take_is c now n hc hk
  rcases ht : k.take c now with ⟨f1, fd, late, k1⟩
  rw [ht] at TI
  have hcn := hk.cn
  have HR := hR.out
  unfold Bk.giveUp at HR
  rw [ht] at HR
  simp only at HR TI
  have HTK : Bx _ := ⟨fun wx f' v' => take_bk own tB tq b ty N o f' v' k c now wx (f1, fd, late, k1) ⟨ht⟩⟩
  have HTI : Bx _ := ⟨TI⟩
  have HRR : Bx _ := ⟨HR⟩
  have H : Bx _ := ⟨h⟩
  have hsi := hk.si
  clear TI HR h ht hR
  simp only [Cf.val]
  go_enter Try.func63, Try.ntmps63
  go_wp2_with fail
  have hJ0 := (Fr.below (T := fun _ => False) (own := own) (below2' w (Obj.cells #[.int .i64 c.buckets, .int .i64 c.quantum, .int .i64 c.packets, .int .i64 c.memory, .int .i64 c.length, .int .i64 c.target, .int .i64 c.interval, .int .i64 c.tau, .bool c.ecn, .string c.key] 29) (Obj.cells #[.slice none 0 0, .int .i64 0, .string ⟨#[]⟩, .int .i64 0, .bool false, .bool false] 113))).junk hj
  refine (HTK.out _ f v (H.out.below (below2' _ _ _)) hJ0 htB htq hc hnow hab hsi).mono ?_
  rintro e w1 ⟨rfl, hP1⟩
  obtain ⟨f2, v2, h2, ho2, hf2⟩ := hP1.ex
  have hs1 := hf2.size
  simp at hs1
  obtain ⟨kc, kcz⟩ := Fr.cell0 hf2 (b := w.heap.size) (by simp; omega) (hj _ (Nat.le_refl _)) hTT
  obtain ⟨kr, krz⟩ := Fr.cell0 hf2 (b := w.heap.size + 1) (by simp) (hj _ (by omega)) hTT
  have p0 : w1.cell? ⟨w.heap.size, 0, none⟩ = some (.int .i64 c.buckets) := (kc 0).trans (by go_simp)
  have p1 : w1.cell? ⟨w.heap.size, 1, none⟩ = some (.int .i64 c.quantum) := (kc 1).trans (by go_simp)
  have p2 : w1.cell? ⟨w.heap.size, 2, none⟩ = some (.int .i64 c.packets) := (kc 2).trans (by go_simp)
  have p3 : w1.cell? ⟨w.heap.size, 3, none⟩ = some (.int .i64 c.memory) := (kc 3).trans (by go_simp)
  have p4 : w1.cell? ⟨w.heap.size, 4, none⟩ = some (.int .i64 c.length) := (kc 4).trans (by go_simp)
  have p5 : w1.cell? ⟨w.heap.size, 5, none⟩ = some (.int .i64 c.target) := (kc 5).trans (by go_simp)
  have p6 : w1.cell? ⟨w.heap.size, 6, none⟩ = some (.int .i64 c.interval) := (kc 6).trans (by go_simp)
  have p7 : w1.cell? ⟨w.heap.size, 7, none⟩ = some (.int .i64 c.tau) := (kc 7).trans (by go_simp)
  have p8 : w1.cell? ⟨w.heap.size, 8, none⟩ = some (.bool c.ecn) := (kc 8).trans (by go_simp)
  have p9 : w1.cell? ⟨w.heap.size, 9, none⟩ = some (.string c.key) := (kc 9).trans (by go_simp)
  have r0 : w1.cell? ⟨w.heap.size + 1, 0, none⟩ = some (.slice none 0 0) := (kr 0).trans (by go_simp)
  have r1 : w1.cell? ⟨w.heap.size + 1, 1, none⟩ = some (.int .i64 0) := (kr 1).trans (by go_simp)
  have r2 : w1.cell? ⟨w.heap.size + 1, 2, none⟩ = some (.string ⟨#[]⟩) := (kr 2).trans (by go_simp)
  have r3 : w1.cell? ⟨w.heap.size + 1, 3, none⟩ = some (.int .i64 0) := (kr 3).trans (by go_simp)
  have r4 : w1.cell? ⟨w.heap.size + 1, 4, none⟩ = some (.bool false) := (kr 4).trans (by go_simp)
  have r5 : w1.cell? ⟨w.heap.size + 1, 5, none⟩ = some (.bool false) := (kr 5).trans (by go_simp)
  have rz : ∀ i, w1.frozen? ⟨w.heap.size + 1, i, none⟩ = false := fun i => (krz i).trans (by go_simp)
  have l4 : w1.cell? ⟨b, o + 4, none⟩ = some (.bool k1.dropping) := h2.cell 4 (by omega)
  have lz := h2.row.row.frozen
  have y0 : w.heap.size < w1.heap.size := by omega
  have y1 : w.heap.size + 1 < w1.heap.size := by omega
  have y2 : b < w1.heap.size := by omega
  have n1 : ¬ w.heap.size = b := by omega
  have n1' : ¬ b = w.heap.size := by omega
  have n2 : ¬ w.heap.size + 1 = b := by omega
  have n2' : ¬ b = w.heap.size + 1 := by omega
  have n3 : ¬ w1.heap.size = b := by omega
  have n4 : ¬ w1.heap.size + 1 = b := by omega
  have hF1 : Fr (fun t => t = tB ∨ t = tq ∨ t = td) own own w w1 := (Fr.below (below2' _ _ _)).trans (hf2.mono (fun t e => e.elim .inl (fun x => .inr (.inl x))))
  have H1 : Bx (BkAt own w1 tB tq b ty N o f2 v2 k1 ∧ Fr (fun t => t = tB ∨ t = tq ∨ t = td) own own w w1 ∧ Junk own w1) := ⟨h2, hF1, hF1.junk hj⟩
  have HJ : Bx (own w.heap.size = 0 ∧ own (w.heap.size + 1) = 0) := ⟨hj _ (Nat.le_refl _), hj _ (by omega)⟩
  clear hP1 h2 hf2 kc kcz kr krz hF1 hJ0 HTK
  simp only [Fm.val]
  cases late
  · have hR2 : ({ k1 with dropping := false }, [], f1, fd, false) = R := by have := HRR.out; rw [if_pos rfl] at this; exact this
    subst hR2
    obtain ⟨f3, h3, ho3⟩ := H1.out.1.set (k' := { k1 with dropping := false }) 4 (.bool false) rfl (by omega) (fun j hj => by match j, hj with | 0, _ => rfl | 1, _ => rfl | 2, _ => rfl | 3, _ => rfl | 4, _ => rfl | 5, _ => rfl | 6, _ => rfl | 7, _ => rfl)
    have H3 : Bx _ := ⟨h3⟩
    clear h3
    go_wp2_with fail
    refine bodyPost_ret (v := .agg #[.slice none 0 0, .int .i64 f1.id, .string f1.s, .int .i64 f1.since, .bool fd, .bool false]) (by simp [results, Try.results63, go_sem, y0, y1, r0, r1, r2, r3, r4, r5]) rfl ⟨own, .slice none 0 0, rfl, ⟨f3, v2, ?_, fun j hj => (ho3 j hj).trans (ho2 j hj), ?_, Sl.nil _ _ _ _ _⟩⟩
    · exact (H3.out.fr (((((((Fr.refl (fun t => t = 0) _ _).setCell (w.heap.size + 1) _ _ HJ.out.2).setCell (w.heap.size + 1) _ _ HJ.out.2).setCell (w.heap.size + 1) _ _ HJ.out.2).setCell (w.heap.size + 1) _ _ HJ.out.2).setCell (w.heap.size + 1) _ _ HJ.out.2).setCell (w.heap.size + 1) _ _ HJ.out.2) htB htq).below (below2' _ _ _)
    · exact (((((((((H1.out.2.1.setCell b (o + 4) _ (.inl H1.out.1.row.tag)).setNew (w.heap.size + 1) _ _ (by omega)).setNew (w.heap.size + 1) _ _ (by omega)).setNew (w.heap.size + 1) _ _ (by omega)).setNew (w.heap.size + 1) _ _ (by omega)).setNew (w.heap.size + 1) _ _ (by omega)).setNew (w.heap.size + 1) _ _ (by omega)).alloc _).alloc _)
  · obtain rfl : fd = true := HTI.out.late rfl
    have e1 : k.q = f1 :: k1.q := HTI.out.yes rfl
    have hok1 : k1.ok c now n := HTI.out.ok.mono (Nat.le_refl _) (by simp)
    have hlen1 : k.q.length = k1.q.length + 1 := by rw [e1]; simp
    have hc1 : k1.count = k.count := HTI.out.count
    have hf1 := hk.one f1 (by rw [e1]; simp)
    have hl2 := hc.l2
    have hR2 := HRR.out
    rw [if_neg (by simp)] at hR2
    have hbW : Below w1.heap.size w1 ((w1.alloc (Obj.cells #[.int .i64 f1.id, .string f1.s, .int .i64 f1.since] 98)).alloc (Obj.cells #[.slice none 0 0, .int .i64 f1.id, .string f1.s, .int .i64 f1.since, .bool true, .bool false] 113)) := below2' _ _ _
    have hW := H1.out.1.below hbW
    have hJW := (Fr.below (T := fun _ => False) (own := own) hbW).junk H1.out.2.2
    have hnx := hok1.nx
    have hcn1 := hok1.cn
    have hla := hok1.la
    have hsi1 : ∀ x ∈ k1.q, x.since ≤ now := hok1.si
    have hab1 : k1.above ≤ 9000000000000000000 := by have := hok1.ab; omega
    cases hdr : k1.dropping
    · rw [hdr] at l4 hR2
      rw [if_neg (by simp)] at hR2
      have HB : Bx (Calls Try.prog 80 #[.pointer (some ⟨b, o, none⟩), .agg #[.slice none 0 0, .int .i64 f1.id, .string f1.s, .int .i64 f1.since, .bool true, .bool false], (.agg #[.int .i64 c.buckets, .int .i64 c.quantum, .int .i64 c.packets, .int .i64 c.memory, .int .i64 c.length, .int .i64 c.target, .int .i64 c.interval, .int .i64 c.tau, .bool c.ecn, .string c.key]), .int .i64 now] ((w1.alloc (Obj.cells #[.int .i64 f1.id, .string f1.s, .int .i64 f1.since] 98)).alloc (Obj.cells #[.slice none 0 0, .int .i64 f1.id, .string f1.s, .int .i64 f1.since, .bool true, .bool false] 113)) fun e w' => ∃ own' dv, e = .returned (gvVal dv R.2.2.1 R.2.2.2.1 R.2.2.2.2) ∧ GvPost own own' ((w1.alloc (Obj.cells #[.int .i64 f1.id, .string f1.s, .int .i64 f1.since] 98)).alloc (Obj.cells #[.slice none 0 0, .int .i64 f1.id, .string f1.s, .int .i64 f1.since, .bool true, .bool false] 113)) w' tB tq td b ty N o f2 R.1 dv R.2.1) := by
        constructor
        cases hm : marksB c f1
        · rw [hm, if_neg (by simp)] at hR2
          have T2 := k1.take_is c now n hc hok1
          rcases ht2 : k1.take c now with ⟨f3, fd3, late3, k3⟩
          rw [ht2] at T2 hR2
          simp only at hR2
          have c3 : k3.next = k1.next := T2.next
          have c4 : k3.count = k1.count := T2.count
          have c5 : k3.last = k1.last := T2.last
          refine (begin_drop own tB tq td b ty N o f2 v2 k1 f1 f3 fd3 late3 k3 c now _ hW hJW htB htq htd htd1 htd2 hc hnow hab1 hsi1 (by omega) hm ⟨ht2⟩ (by rw [c3]; omega) (by rw [c4]; omega) (by rw [c4, c5]; exact hla)).mono ?_
          rintro e w' ⟨own', db, dk, rfl, hP⟩
          rw [← hR2]
          exact ⟨own', _, rfl, hP⟩
        · rw [hm, if_pos rfl] at hR2
          obtain ⟨g, Hg⟩ : ∃ g, Bx (g = f1.mark) := ⟨_, ⟨rfl⟩⟩
          rw [← Hg.out] at hR2
          refine (begin_mark own tB tq td b ty N o f2 v2 k1 f1 g c now _ hW hJW htB htq hc hnow (by omega) (by omega) hla (by omega) hm Hg).mono ?_
          rintro e w' ⟨rfl, hP⟩
          rw [← hR2]
          exact ⟨own, _, rfl, hP⟩
      clear hR2 HRR hW hJW hok1 e1 hsi1 hk hsi hdr
      go_wp2_with fail
      refine HB.out.mono ?_
      rintro e w3 ⟨own3, dv, rfl, hG⟩
      obtain ⟨f5, v5, h5, ho5, hf5, hs5⟩ := hG.ex
      obtain ⟨dx, dc, rfl⟩ := hs5.form
      have hs3 := hf5.size
      simp at hs3
      have u : ∀ i, w3.cell? ⟨w.heap.size + 1, i, none⟩ = w1.cell? ⟨w.heap.size + 1, i, none⟩ := fun i => (hf5.cell (b := w.heap.size + 1) i (by simp; omega) (by rw [HJ.out.2]; exact hT0)).trans (by go_simp)
      have z0 : w3.cell? ⟨w.heap.size + 1, 0, none⟩ = some (.slice none 0 0) := (u 0).trans r0
      have z1 : w3.cell? ⟨w.heap.size + 1, 1, none⟩ = some (.int .i64 0) := (u 1).trans r1
      have z2 : w3.cell? ⟨w.heap.size + 1, 2, none⟩ = some (.string ⟨#[]⟩) := (u 2).trans r2
      have z3 : w3.cell? ⟨w.heap.size + 1, 3, none⟩ = some (.int .i64 0) := (u 3).trans r3
      have z4 : w3.cell? ⟨w.heap.size + 1, 4, none⟩ = some (.bool false) := (u 4).trans r4
      have z5 : w3.cell? ⟨w.heap.size + 1, 5, none⟩ = some (.bool false) := (u 5).trans r5
      have zz : ∀ i, w3.frozen? ⟨w.heap.size + 1, i, none⟩ = false := fun i => (hf5.frozen (b := w.heap.size + 1) i (by simp; omega) (by rw [HJ.out.2]; exact hT0)).trans (by go_simp)
      have ht3 : own3 (w.heap.size + 1) = 0 := (hf5.old _ (by simp; omega)).trans HJ.out.2
      have H5 : Bx (BkAt own3 w3 tB tq b ty N o f5 v5 R.1 ∧ Fr (fun t => t = tB ∨ t = tq ∨ t = td) own own3 w w3 ∧ Sl anyG own3 w3 td 3 (.slice dx R.2.1.length dc) R.2.1.length (fmCells R.2.1) ∧ own3 (w.heap.size + 1) = 0) := ⟨h5, ((H1.out.2.1.alloc _).alloc _).trans hf5, hs5, ht3⟩
      clear hG h5 hf5 hs5 u p0 p1 p2 p3 p4 p5 p6 p7 p8 p9 r0 r1 r2 r3 r4 r5 rz l4 lz HB ht3
      simp only [gvVal]
      go_wp2_with fail
      refine bodyPost_ret (v := .agg #[.slice dx R.2.1.length dc, .int .i64 R.2.2.1.id, .string R.2.2.1.s, .int .i64 R.2.2.1.since, .bool R.2.2.2.1, .bool R.2.2.2.2]) (by simp [results, Try.results63, go_sem, z0, z1, z2, z3, z4, z5]) rfl ⟨own3, .slice dx R.2.1.length dc, rfl, ⟨f5, v5, H5.out.1.fr (((((((Fr.refl (fun t => t = 0) _ _).setCell (w.heap.size + 1) _ _ H5.out.2.2.2).setCell (w.heap.size + 1) _ _ H5.out.2.2.2).setCell (w.heap.size + 1) _ _ H5.out.2.2.2).setCell (w.heap.size + 1) _ _ H5.out.2.2.2).setCell (w.heap.size + 1) _ _ H5.out.2.2.2).setCell (w.heap.size + 1) _ _ H5.out.2.2.2) htB htq, fun j hj => (ho5 j hj).trans (ho2 j hj), ((((((H5.out.2.1.setNew (w.heap.size + 1) _ _ (by omega)).setNew (w.heap.size + 1) _ _ (by omega)).setNew (w.heap.size + 1) _ _ (by omega)).setNew (w.heap.size + 1) _ _ (by omega)).setNew (w.heap.size + 1) _ _ (by omega)).setNew (w.heap.size + 1) _ _ (by omega)), H5.out.2.2.1.fr (((((((Fr.refl (fun t => t = 0) _ _).setCell (w.heap.size + 1) _ _ H5.out.2.2.2).setCell (w.heap.size + 1) _ _ H5.out.2.2.2).setCell (w.heap.size + 1) _ _ H5.out.2.2.2).setCell (w.heap.size + 1) _ _ H5.out.2.2.2).setCell (w.heap.size + 1) _ _ H5.out.2.2.2).setCell (w.heap.size + 1) _ _ H5.out.2.2.2) htd⟩⟩
    · rw [hdr] at l4
      rw [if_pos hdr] at hR2
      have HB : Bx (Calls Try.prog 79 #[.pointer (some ⟨b, o, none⟩), .agg #[.slice none 0 0, .int .i64 f1.id, .string f1.s, .int .i64 f1.since, .bool true, .bool false], (.agg #[.int .i64 c.buckets, .int .i64 c.quantum, .int .i64 c.packets, .int .i64 c.memory, .int .i64 c.length, .int .i64 c.target, .int .i64 c.interval, .int .i64 c.tau, .bool c.ecn, .string c.key]), .int .i64 now] ((w1.alloc (Obj.cells #[.int .i64 f1.id, .string f1.s, .int .i64 f1.since] 98)).alloc (Obj.cells #[.slice none 0 0, .int .i64 f1.id, .string f1.s, .int .i64 f1.since, .bool true, .bool false] 113)) fun e w' => ∃ own' dv, e = .returned (gvVal dv R.2.2.1 R.2.2.2.1 R.2.2.2.2) ∧ GvPost own own' ((w1.alloc (Obj.cells #[.int .i64 f1.id, .string f1.s, .int .i64 f1.since] 98)).alloc (Obj.cells #[.slice none 0 0, .int .i64 f1.id, .string f1.s, .int .i64 f1.since, .bool true, .bool false] 113)) w' tB tq td b ty N o f2 R.1 dv R.2.1) := ⟨goOn_any own tB tq td b ty N o n f2 v2 k1 f1 c now _ hW hJW htB htq htd htd1 htd2 hc hnow hok1 hn (by omega) (by omega) R ⟨hR2⟩⟩
      clear hR2 HRR hW hJW hok1 e1 hsi1 hk hsi hdr
      go_wp2_with fail
      refine HB.out.mono ?_
      rintro e w3 ⟨own3, dv, rfl, hG⟩
      obtain ⟨f5, v5, h5, ho5, hf5, hs5⟩ := hG.ex
      obtain ⟨dx, dc, rfl⟩ := hs5.form
      have hs3 := hf5.size
      simp at hs3
      have u : ∀ i, w3.cell? ⟨w.heap.size + 1, i, none⟩ = w1.cell? ⟨w.heap.size + 1, i, none⟩ := fun i => (hf5.cell (b := w.heap.size + 1) i (by simp; omega) (by rw [HJ.out.2]; exact hT0)).trans (by go_simp)
      have z0 : w3.cell? ⟨w.heap.size + 1, 0, none⟩ = some (.slice none 0 0) := (u 0).trans r0
      have z1 : w3.cell? ⟨w.heap.size + 1, 1, none⟩ = some (.int .i64 0) := (u 1).trans r1
      have z2 : w3.cell? ⟨w.heap.size + 1, 2, none⟩ = some (.string ⟨#[]⟩) := (u 2).trans r2
      have z3 : w3.cell? ⟨w.heap.size + 1, 3, none⟩ = some (.int .i64 0) := (u 3).trans r3
      have z4 : w3.cell? ⟨w.heap.size + 1, 4, none⟩ = some (.bool false) := (u 4).trans r4
      have z5 : w3.cell? ⟨w.heap.size + 1, 5, none⟩ = some (.bool false) := (u 5).trans r5
      have zz : ∀ i, w3.frozen? ⟨w.heap.size + 1, i, none⟩ = false := fun i => (hf5.frozen (b := w.heap.size + 1) i (by simp; omega) (by rw [HJ.out.2]; exact hT0)).trans (by go_simp)
      have ht3 : own3 (w.heap.size + 1) = 0 := (hf5.old _ (by simp; omega)).trans HJ.out.2
      have H5 : Bx (BkAt own3 w3 tB tq b ty N o f5 v5 R.1 ∧ Fr (fun t => t = tB ∨ t = tq ∨ t = td) own own3 w w3 ∧ Sl anyG own3 w3 td 3 (.slice dx R.2.1.length dc) R.2.1.length (fmCells R.2.1) ∧ own3 (w.heap.size + 1) = 0) := ⟨h5, ((H1.out.2.1.alloc _).alloc _).trans hf5, hs5, ht3⟩
      clear hG h5 hf5 hs5 u p0 p1 p2 p3 p4 p5 p6 p7 p8 p9 r0 r1 r2 r3 r4 r5 rz l4 lz HB ht3
      simp only [gvVal]
      go_wp2_with fail
      refine bodyPost_ret (v := .agg #[.slice dx R.2.1.length dc, .int .i64 R.2.2.1.id, .string R.2.2.1.s, .int .i64 R.2.2.1.since, .bool R.2.2.2.1, .bool R.2.2.2.2]) (by simp [results, Try.results63, go_sem, z0, z1, z2, z3, z4, z5]) rfl ⟨own3, .slice dx R.2.1.length dc, rfl, ⟨f5, v5, H5.out.1.fr (((((((Fr.refl (fun t => t = 0) _ _).setCell (w.heap.size + 1) _ _ H5.out.2.2.2).setCell (w.heap.size + 1) _ _ H5.out.2.2.2).setCell (w.heap.size + 1) _ _ H5.out.2.2.2).setCell (w.heap.size + 1) _ _ H5.out.2.2.2).setCell (w.heap.size + 1) _ _ H5.out.2.2.2).setCell (w.heap.size + 1) _ _ H5.out.2.2.2) htB htq, fun j hj => (ho5 j hj).trans (ho2 j hj), ((((((H5.out.2.1.setNew (w.heap.size + 1) _ _ (by omega)).setNew (w.heap.size + 1) _ _ (by omega)).setNew (w.heap.size + 1) _ _ (by omega)).setNew (w.heap.size + 1) _ _ (by omega)).setNew (w.heap.size + 1) _ _ (by omega)).setNew (w.heap.size + 1) _ _ (by omega)), H5.out.2.2.1.fr (((((((Fr.refl (fun t => t = 0) _ _).setCell (w.heap.size + 1) _ _ H5.out.2.2.2).setCell (w.heap.size + 1) _ _ H5.out.2.2.2).setCell (w.heap.size + 1) _ _ H5.out.2.2.2).setCell (w.heap.size + 1) _ _ H5.out.2.2.2).setCell (w.heap.size + 1) _ _ H5.out.2.2.2).setCell (w.heap.size + 1) _ _ H5.out.2.2.2) htd⟩⟩

end Go.Proofs.Ytnkicbopebgppaa

namespace Go.Proofs.Ytnkicbopebgppaa
open Go.RowKit Fl

theorem bytes_toList {a b : ByteArray} (h : a.toList = b.toList) : a = b := by
  rw [ByteArray.toList_eq, ByteArray.toList_eq] at h
  obtain ⟨⟨x⟩⟩ := a
  obtain ⟨⟨y⟩⟩ := b
  have h' : x = y := h
  rw [h']

set_option maxRecDepth 100000 in
set_option maxHeartbeats 3200000 in
theorem keeps_any (a c : Cf) (w : World) (r : Bool) (hr : Bx (decide (a.keeps c) = r)) :
    Calls Try.prog 34 #[a.val, c.val] w fun e w' => e = .returned (.bool r) ∧ Below w.heap.size w w' := by
  have HR : Bx _ := ⟨hr.out⟩
  clear hr
  simp only [Cf.val]
  go_enter Try.func34, Try.ntmps34
  by_cases hb : c.buckets = a.buckets
  · have e1 : (c.buckets : Int) = a.buckets := by omega
    by_cases hk : c.key = a.key
    · have HB : Bx (c.buckets = a.buckets ∧ c.key = a.key) := ⟨hb, hk⟩
      have e2 : c.key.toList = a.key.toList := by rw [hk]
      clear hb hk
      go_wp2_with fail
      go_ret
      refine ⟨ret_bool ?_, below2' _ _ _⟩
      rw [← HR.out]
      by_cases hl : c.length = a.length
      · rw [decide_eq_true (p := a.keeps c) ⟨HB.out.1, HB.out.2, hl⟩, hl]; simp
      · rw [decide_eq_false (p := a.keeps c) (fun e => hl e.2.2)]
        exact beq_false_of_ne (by omega)
    · have HB : Bx (¬ c.key = a.key) := ⟨hk⟩
      have e2 : ¬ c.key.toList = a.key.toList := fun e => hk (bytes_toList e)
      clear hk hb
      go_wp2_with fail
      go_ret
      refine ⟨ret_bool ?_, below2' _ _ _⟩
      rw [← HR.out, decide_eq_false (p := a.keeps c) (fun e => HB.out e.2.1)]
  · have e1 : ¬ (c.buckets : Int) = a.buckets := by omega
    have HB : Bx (¬ c.buckets = a.buckets) := ⟨hb⟩
    clear hb
    go_wp2_with fail
    go_ret
    refine ⟨ret_bool ?_, below2' _ _ _⟩
    rw [← HR.out, decide_eq_false (p := a.keeps c) (fun e => HB.out e.1)]

end Go.Proofs.Ytnkicbopebgppaa

namespace Go.Proofs.Ytnkicbopebgppaa
open Go.RowKit Fl

/-- What is left to do once the next bucket is known. -/
def Pt.fedBy (k : Nat) (p : Pt) : Pt :=
  if p.tn.first.2 = false then p
  else match p.serve with
    | (p1, true) => p1
    | (p1, false) => Pt.feeds k p1

theorem Pt.feeds_by (k : Nat) (p : Pt) : Pt.feeds (k + 1) p = Pt.fedBy k { p with tn := p.tn.next p.c.quantum } := rfl

/-- Where feed stands. -/
structure FdRel (own : Nat → Nat) (w wr : World) (T te a : Nat) (E : List Ev) (p p' : Pt) (k : Nat) (p1 : Pt) (v1 : Value) (l : List Ev) (own1 : Nat → Nat) : Prop where
  done : p1.done = p.done ++ l
  pt : PtAt own1 wr T a p1
  sl : Sl evG own1 wr te 5 v1 (E ++ l).length (evCells (E ++ l))
  nil : E ++ l = [] → v1 = .slice none 0 0
  fr : Fr (PTag T te) own own1 w wr
  ok : p1.ok
  ids : p1.ids ≤ 16777216
  pass : p1.tn.passB = false
  fed : Pt.fedBy k p1 = p'
  size : p1.tn.size ≤ k
  len : (E ++ l).length + p1.frames ≤ 1000

/-- A block that was made ahead of a call is as it was. -/
theorem given_after {TT : Nat → Prop} {own1 own2 : Nat → Nat} {wr w1 : World} (hf : Fr TT own1 own2 (wr.alloc (Obj.cells #[.slice none 0 0, .int .i64 0, .string ⟨#[]⟩, .int .i64 0, .bool false, .bool false] 113)).drew w1) (h0 : ¬ TT (own1 wr.heap.size)) :
    wr.heap.size < w1.heap.size ∧ w1.cell? ⟨wr.heap.size, 0, none⟩ = some (.slice none 0 0) ∧ w1.cell? ⟨wr.heap.size, 1, none⟩ = some (.int .i64 0) ∧ w1.cell? ⟨wr.heap.size, 2, none⟩ = some (.string ⟨#[]⟩) ∧ w1.cell? ⟨wr.heap.size, 3, none⟩ = some (.int .i64 0) ∧ w1.cell? ⟨wr.heap.size, 4, none⟩ = some (.bool false) ∧ w1.cell? ⟨wr.heap.size, 5, none⟩ = some (.bool false) ∧ ∀ i, w1.frozen? ⟨wr.heap.size, i, none⟩ = false := by
  have hl : wr.heap.size < (wr.alloc (Obj.cells #[.slice none 0 0, .int .i64 0, .string ⟨#[]⟩, .int .i64 0, .bool false, .bool false] 113)).drew.heap.size := by show wr.heap.size < (wr.alloc _).heap.size; simp
  exact ⟨Nat.lt_of_lt_of_le hl hf.size, (hf.cell 0 hl h0).trans (by go_simp), (hf.cell 1 hl h0).trans (by go_simp), (hf.cell 2 hl h0).trans (by go_simp), (hf.cell 3 hl h0).trans (by go_simp), (hf.cell 4 hl h0).trans (by go_simp), (hf.cell 5 hl h0).trans (by go_simp), fun i => (hf.frozen i hl h0).trans (by go_simp)⟩

/-- Where feed stands once a bucket has given up what it gives up. -/
structure GvRel (own own2 : Nat → Nat) (w wx : World) (T te a i gp : Nat) (L : List Ev) (p1 : Pt) (v1 dv : Value) (k : Bk) (d : List Fm) (f : Fm) (fd m : Bool) : Prop where
  pt : PcAt own2 wx T a p1.counts (p1.put i k)
  gv : Box own2 wx gp [dv, .int .i64 f.id, .string f.s, .int .i64 f.since, .bool fd, .bool m]
  dr : Sl anyG own2 wx 1 3 dv d.length (fmCells d)
  sl : Sl evG own2 wx te 5 v1 L.length (evCells L)
  fr : Fr (PTag T te) own own2 w wx
  junk : Junk own2 wx

section
variable {own own1 own2 : Nat → Nat} {w wr w1 W : World} {T te a i g : Nat} {L : List Ev} {p1 : Pt} {v1 vq5 : Value} {k : Bk} {d : List Fm} {f : Fm} {fd m : Bool} {fP : Nat → Value} {vF vO : Value} {fB vq fB5 : Nat → Value} {dx : Option Addr} {dc : Nat}

/-- The facts behind GiveUp, at once. -/
structure GvGot (own own1 own2 : Nat → Nat) (w wr W w1 : World) (T te a i g : Nat) (L : List Ev) (p1 : Pt) (v1 : Value) (k : Bk) (d : List Fm) (dv : Value) : Prop where
  pt : PcAt own2 w1 T a p1.counts (p1.put i k)
  dr : Sl anyG own2 w1 1 3 dv d.length (fmCells d)
  sl : Sl evG own2 w1 te 5 v1 L.length (evCells L)
  fr : Fr (PTag T te) own own2 w w1
  junk : Junk own2 w1
  one : Fr (fun t => t = T + 1 ∨ t = T + 4 + i ∨ t = 1) own1 own2 W w1
  ww : w.heap.size ≤ wr.heap.size

theorem gv_got (ht : Tags T te) (h1 : PtIs own1 wr T a g fP vF vO fB vq p1.counts p1) (hs : Sl evG own1 wr te 5 v1 L.length (evCells L)) (hJ : Junk own1 wr) (hF : Fr (PTag T te) own own1 w wr) (hi : i < p1.c.buckets) (hb16 : p1.c.buckets ≤ 16) (hW : Below wr.heap.size wr W)
    (hB : BkAt own2 w1 (T + 1) (T + 4 + i) g 95 (p1.c.buckets * 8) (i * 8) fB5 vq5 k) (ho : ∀ j, j < i * 8 ∨ i * 8 + 8 ≤ j → fB5 j = fB j) (hf : Fr (fun t => t = T + 1 ∨ t = T + 4 + i ∨ t = 1) own1 own2 W w1) (hd : Sl anyG own2 w1 1 3 (.slice dx d.length dc) d.length (fmCells d)) :
    GvGot own own1 own2 w wr W w1 T te a i g L p1 v1 k d (.slice dx d.length dc) := by
  have hbig := ht.big; have hte := ht.te2; have hout := ht.out
  refine ⟨⟨g, fP, vF, vO, fB5, _, (h1.below hW hb16).put i hi hb16 hB ho hf (fun t h1 h2 h3 h4 e => by omega)⟩, hd, (hs.below hW).fr hf (fun e => by omega), (hF.trans (Fr.below hW)).trans (hf.mono (fun t e => by show (T ≤ t ∧ t < T + 20) ∨ t = 1 ∨ t = te; omega)), hf.junk ((Fr.below (T := fun _ => False) hW).junk hJ), hf, hF.size⟩

theorem gv_made (G : GvGot own own1 own2 w wr W w1 T te a i g L p1 v1 k d (.slice dx d.length dc)) (hb16 : p1.c.buckets ≤ 16) : GvRel own own2 w (w1.alloc (Obj.cells #[.slice dx d.length dc, .int .i64 f.id, .string f.s, .int .i64 f.since, .bool fd, .bool m] 113)) T te a i w1.heap.size L p1 v1 (.slice dx d.length dc) k d f fd m := by
  have hb : Below w1.heap.size w1 (w1.alloc (Obj.cells #[.slice dx d.length dc, .int .i64 f.id, .string f.s, .int .i64 f.since, .bool fd, .bool m] 113)) := (Below.refl _ _).alloc (Nat.le_refl _) _
  obtain ⟨g', fP', vF', vO', fB', vq', h'⟩ := G.pt
  exact ⟨⟨g', fP', vF', vO', fB', vq', h'.below hb hb16⟩, Box.six _ _ _ _ _ _ (G.junk _ (Nat.le_refl _)) (by simp) (by go_simp) (by go_simp) (by go_simp) (by go_simp) (by go_simp) (by go_simp) (fun i => by go_simp), G.dr.below hb, G.sl.below hb, G.fr.alloc _, (Fr.below (T := fun _ => False) hb).junk G.junk⟩

theorem gv_laid (ht : Tags T te) (hJ : Junk own1 wr) (G : GvGot own own1 own2 w wr (wr.alloc (Obj.cells #[.slice none 0 0, .int .i64 0, .string ⟨#[]⟩, .int .i64 0, .bool false, .bool false] 113)).drew w1 T te a i g L p1 v1 k d (.slice dx d.length dc)) (hb16 : p1.c.buckets ≤ 16) :
    GvRel own own2 w ((((((w1.setCell ⟨wr.heap.size, 0, none⟩ (.slice dx d.length dc)).setCell ⟨wr.heap.size, 1, none⟩ (.int .i64 f.id)).setCell ⟨wr.heap.size, 2, none⟩ (.string f.s)).setCell ⟨wr.heap.size, 3, none⟩ (.int .i64 f.since)).setCell ⟨wr.heap.size, 4, none⟩ (.bool fd)).setCell ⟨wr.heap.size, 5, none⟩ (.bool m)) T te a i wr.heap.size L p1 v1 (.slice dx d.length dc) k d f fd m := by
  have hbig := ht.big; have hte := ht.te2
  have h10 : own1 wr.heap.size = 0 := hJ _ (Nat.le_refl _)
  have h00 : ¬ (own1 wr.heap.size = T + 1 ∨ own1 wr.heap.size = T + 4 + i ∨ own1 wr.heap.size = 1) := by rw [h10]; omega
  obtain ⟨zlt, z0, z1, z2, z3, z4, z5, zz⟩ := given_after G.one h00
  have h20 : own2 wr.heap.size = 0 := (G.one.old _ (by show wr.heap.size < (wr.alloc _).heap.size; simp)).trans h10
  have hww := G.ww
  have hF1 := G.fr
  have k0 : Fr (fun t => t = 0) own2 own2 w1 ((((((w1.setCell ⟨wr.heap.size, 0, none⟩ (.slice dx d.length dc)).setCell ⟨wr.heap.size, 1, none⟩ (.int .i64 f.id)).setCell ⟨wr.heap.size, 2, none⟩ (.string f.s)).setCell ⟨wr.heap.size, 3, none⟩ (.int .i64 f.since)).setCell ⟨wr.heap.size, 4, none⟩ (.bool fd)).setCell ⟨wr.heap.size, 5, none⟩ (.bool m)) := (((((((Fr.refl (fun t => t = 0) own2 w1).setCell wr.heap.size 0 (.slice dx d.length dc) h20).setCell wr.heap.size 1 (.int .i64 f.id) h20).setCell wr.heap.size 2 (.string f.s) h20).setCell wr.heap.size 3 (.int .i64 f.since) h20).setCell wr.heap.size 4 (.bool fd) h20).setCell wr.heap.size 5 (.bool m) h20)
  obtain ⟨g', fP', vF', vO', fB', vq', h'⟩ := G.pt
  exact ⟨⟨g', fP', vF', vO', fB', vq', h'.fr k0 (fun t h1 _ e => by omega) hb16⟩, Box.six _ _ _ _ _ _ h20 (by simp [World.setCell]; omega) (by go_simp) (by go_simp) (by go_simp) (by go_simp) (by go_simp) (by go_simp) (fun i => by go_simp), G.dr.fr k0 (by omega), G.sl.fr k0 (by omega), ((((((hF1.setNew wr.heap.size 0 (.slice dx d.length dc) hww).setNew wr.heap.size 1 (.int .i64 f.id) hww).setNew wr.heap.size 2 (.string f.s) hww).setNew wr.heap.size 3 (.int .i64 f.since) hww).setNew wr.heap.size 4 (.bool fd) hww).setNew wr.heap.size 5 (.bool m) hww), k0.junk G.junk⟩

end

theorem fmCells_el : ∀ (d : List Fm) (j : Nat) (x : Fm) (c : Nat), d[j]? = some x → c < 3 → (fmCells d)[j * 3 + c]? = x.cells[c]? := by
  intro d
  induction d with
  | nil => intro j x c h; simp at h
  | cons y d ih =>
    intro j x c h hc
    have hcl : y.cells.length = 3 := rfl
    show (y.cells ++ fmCells d)[j * 3 + c]? = _
    cases j with
    | zero =>
      simp at h
      subst h
      rw [List.getElem?_append_left (by omega)]
      simp
    | succ j =>
      rw [List.getElem?_append_right (by omega), hcl, show (j + 1) * 3 + c - 3 = j * 3 + c by omega]
      exact ih j x c (by simpa using h) hc

/-- An element of a list of frames. -/
theorem sl_fmAt {own : Nat → Nat} {w : World} {t : Nat} {v : Value} {d : List Fm} (h : Sl anyG own w t 3 v d.length (fmCells d)) {j : Nat} {x : Fm} (hx : d[j]? = some x) :
    ∃ g off cap, v = .slice (some ⟨g, off, none⟩) d.length cap ∧ g < w.heap.size ∧ own g = t ∧ w.cell? ⟨g, off + j * 3, none⟩ = some (.int .i64 x.id) ∧ w.cell? ⟨g, off + j * 3 + 1, none⟩ = some (.string x.s) ∧ w.cell? ⟨g, off + j * 3 + 2, none⟩ = some (.int .i64 x.since) := by
  obtain ⟨_, h2⟩ := h
  rcases h2 with ⟨_, hn⟩ | ⟨g, off, cap, hv, ho, hg, _, _, hc, _, _⟩
  · have : d = [] := List.length_eq_zero_iff.1 hn
    rw [this] at hx; simp at hx
  · refine ⟨g, off, cap, hv, hg, ho, hc _ _ (fmCells_el d j x 0 hx (by omega)), ?_, ?_⟩
    · rw [Nat.add_assoc]; exact hc _ _ (fmCells_el d j x 1 hx (by omega))
    · rw [Nat.add_assoc]; exact hc _ _ (fmCells_el d j x 2 hx (by omega))

theorem Pt.happens_snoc (p : Pt) (k i : Nat) (l : List Fm) (x : Fm) : (p.happens k i l).happens k i [x] = p.happens k i (l ++ [x]) := by
  simp [Pt.happens]

theorem Pt.drops_counts (p : Pt) (i : Nat) (l : List Fm) (c : Nat) : (p.happens 4 i l).counts c ≤ p.counts c + l.length := by
  have hd : (p.happens 4 i l).done = p.done ++ l.map (fun f => (⟨p.now, 4, f.id, i, f.s⟩ : Ev)) := rfl
  have hid : (p.happens 4 i l).ids = p.ids := rfl
  unfold Pt.counts
  rw [hd, hid, outOf_append, countOf_append]
  have h1 : outOf (l.map (fun f => (⟨p.now, 4, f.id, i, f.s⟩ : Ev))) = 0 := by
    induction l with
    | nil => rfl
    | cons x l ih => simp only [List.map_cons, outOf]; rw [ih rfl rfl]; simp
  have h2 := countOf_le (l.map (fun f => (⟨p.now, 4, f.id, i, f.s⟩ : Ev))) c
  rw [List.length_map] at h2
  rw [h1]
  split
  · omega
  · split <;> omega

/-- Where feed stands while it tells what was dropped. -/
structure InRel (own own3 : Nat → Nat) (w wr : World) (T te a i gp : Nat) (L : List Ev) (p1 : Pt) (v3 dv : Value) (k : Bk) (d : List Fm) (f : Fm) (fd m : Bool) (j : Nat) : Prop where
  pt : PtAt own3 wr T a ((p1.put i k).happens 4 i (d.take j))
  gv : Box own3 wr gp [dv, .int .i64 f.id, .string f.s, .int .i64 f.since, .bool fd, .bool m]
  dr : Sl anyG own3 wr 1 3 dv d.length (fmCells d)
  sl : Sl evG own3 wr te 5 v3 (L ++ (d.take j).map (fun f => (⟨p1.now, 4, f.id, i, f.s⟩ : Ev))).length (evCells (L ++ (d.take j).map (fun f => (⟨p1.now, 4, f.id, i, f.s⟩ : Ev))))
  nil : L ++ (d.take j).map (fun f => (⟨p1.now, 4, f.id, i, f.s⟩ : Ev)) = [] → v3 = .slice none 0 0
  fr : Fr (PTag T te) own own3 w wr
  junk : Junk own3 wr

theorem Pt.happens_nil (p : Pt) (k i : Nat) : p.happens k i [] = p := by simp [Pt.happens]

set_option maxRecDepth 100000 in
set_option maxHeartbeats 6400000 in
theorem pfeed_any (own : Nat → Nat) (T te a : Nat) (p : Pt) (E : List Ev) (v : Value) (w : World) (h : PtAt own w T a p) (ht : Tags T te) (hj : Junk own w) (hok : p.ok) (hid : p.ids ≤ 16777216) (hs : Sl evG own w te 5 v E.length (evCells E)) (hv : E = [] → v = .slice none 0 0) (hE : E.length + p.frames ≤ 1000)
    (p' : Pt) (hp' : Bx (p.feed = p')) :
    Calls Try.prog 49 #[.pointer (some ⟨a, 0, none⟩), v] w fun e w' => ∃ v', e = .returned v' ∧ EvPost own w w' T te a E p p' v' := by
  obtain ⟨g, fP, vF, vO, fB, vq, h⟩ := h
  have c1 : w.cell? ⟨a, 1, none⟩ = some (.int .i64 p.c.quantum) := (h.cell 1 (by omega)).trans (by rw [h.cf 1 (by omega)]; rfl)
  have N := p.tn.next_is p.c.buckets p.c.quantum hok.tn hok.c.b2 hok.c.q1 hok.c.q2
  have HN : Bx _ := ⟨next_any own T (T + 2) (T + 3) a 63 55 14 p.c.quantum p.tn.pot fP vF vO p.tn (p.tn.next p.c.quantum) w.drew (h.tn.below ((Below.refl _ _).drew)) (hok.tn.ok hok.c.b2) hok.c.q1 hok.c.q2 ⟨rfl⟩ N.1⟩
  have hN := p.next_ok hok
  have hfed := hp'.out
  unfold Pt.feed at hfed
  rw [Pt.feeds_by] at hfed
  have hb16 := hok.c.b2
  obtain ⟨t1, Ht1⟩ : ∃ t1, Bx (p.tn.next p.c.quantum = t1) := ⟨_, ⟨rfl⟩⟩
  rw [Ht1.out] at HN hN hfed N
  have H : Bx (PtIs own w T a g fP vF vO fB vq p.counts p ∧ Sl evG own w te 5 v E.length (evCells E) ∧ (E = [] → v = .slice none 0 0) ∧ Pt.ok { p with tn := t1 } ∧ Pt.fedBy p.tn.size { p with tn := t1 } = p' ∧ t1.passB = false ∧ t1.size ≤ p.tn.size) := ⟨h, hs, hv, hN, hfed, N.1, N.2.2⟩
  clear h hs hv hN hfed N hp'
  go_enter Try.func49, Try.ntmps49
  go_wp2_with fail
  go_cut [5, 6] (fun vb vf wx => ∃ own1, vb = .int .i64 (t1.first.1 : Nat) ∧ vf = .bool t1.first.2 ∧ FdRel own w wx T te a E p p' p.tn.size { p with tn := t1 } v [] own1)
  case first =>
    go_region_with (go_at_call 62; refine HN.out.mono ?_; rintro e w1 ⟨own1, rfl, hP1⟩)
    all_goals
      have HR : Bx (FdRel own w w1 T te a E p p' p.tn.size { p with tn := t1 } v [] own1) := by
        obtain ⟨fP1, vF1, vO1, h1, ho1, hf1⟩ := hP1.ex
        refine ⟨⟨by simp, ⟨g, fP1, vF1, vO1, fB, vq, (H.out.1.below ((Below.refl _ _).drew) hb16).turn h1 ho1 hf1⟩, ?_, by simpa using H.out.2.2.1, ((Fr.refl _ own w).drew).trans (hf1.mono (fun t e => .inl (by omega))), H.out.2.2.2.1, hid, H.out.2.2.2.2.2.1, H.out.2.2.2.2.1, H.out.2.2.2.2.2.2, by rw [List.append_nil]; exact hE⟩⟩
        have := (H.out.2.1.below ((Below.refl _ _).drew)).fr hf1 (fun e => by have := ht.out; omega)
        simpa using this
      clear hP1
      go_wp2_with fail
      go_meet
      case rel => exact ⟨own1, rfl, rfl, HR.out⟩
  case rest =>
    obtain ⟨own1, rfl, rfl, HR⟩ := hcut
    have HR1 : Bx _ := ⟨HR⟩
    clear HR HN H c1
    go_wp2_with fail
    go_loopg [1, 5, 6] p.tn.size (fun k ve vb vf wr => ∃ own1 p1 v1 l, ve = v1 ∧ vb = .int .i64 (p1.tn.first.1 : Nat) ∧ vf = .bool p1.tn.first.2 ∧ FdRel own w wr T te a E p p' k p1 v1 l own1)
    case atStart => exact ⟨own1, _, v, [], rfl, rfl, rfl, HR1.out⟩
    case round =>
      clear HR1
      obtain ⟨own1, p1, v1, l, rfl, rfl, rfl, S⟩ := hrel
      cases hfd : p1.tn.first.2
      · have e1 : p1 = p' := by rw [← S.fed]; unfold Pt.fedBy; rw [if_pos hfd]
        subst e1
        have HP : Bx (EvPost own w wr T te a E p p1 u1) := ⟨⟨own1, l, S.done, S.pt, S.sl, S.nil, S.fr⟩⟩
        clear S
        go_wp2_with fail
        go_ret
        exact ⟨u1, rfl, HP.out⟩
      · have hpos := Tn.pass_no S.pass hfd
        have hi := S.ok.tn.first_lt hfd
        obtain ⟨i, Hi⟩ : ∃ i, Bx (p1.tn.first.1 = i) := ⟨_, ⟨rfl⟩⟩
        obtain ⟨L, HL⟩ : ∃ L, Bx (E ++ l = L) := ⟨_, ⟨rfl⟩⟩
        obtain ⟨R, HR⟩ : ∃ R, Bx ((p1.bk i).giveUp p1.c p1.now = R) := ⟨_, ⟨rfl⟩⟩
        have G := (p1.bk i).giveUp_is p1.c p1.now p1.ids S.ok.c (S.ok.bk _)
        rw [HR.out] at G
        have hfed := S.fed
        unfold Pt.fedBy at hfed
        rw [if_neg (by simp [hfd])] at hfed
        unfold Pt.serve at hfed
        rw [Hi.out, HR.out] at hfed
        obtain ⟨k1, d, f, fd, m⟩ := R
        rw [Hi.out] at hi hpos
        have hSl := S.sl
        have hLen := S.len
        rw [HL.out] at hSl hLen
        have hJ1 : Junk own1 wr := S.fr.junk hj
        obtain ⟨g, fP, vF, vO, fB, vq, h1⟩ := S.pt
        have hb16 := S.ok.c.b2
        have hid1 := S.ids
        have C : ∀ j, j < 10 → wr.cell? ⟨a, j, none⟩ = some (cfF p1.c j) := fun j hj => (h1.cell j (by omega)).trans (by rw [h1.cf j hj])
        have c0 : wr.cell? ⟨a, 0, none⟩ = some (.int .i64 p1.c.buckets) := C 0 (by omega)
        have c1 : wr.cell? ⟨a, 1, none⟩ = some (.int .i64 p1.c.quantum) := C 1 (by omega)
        have c2 : wr.cell? ⟨a, 2, none⟩ = some (.int .i64 p1.c.packets) := C 2 (by omega)
        have c3 : wr.cell? ⟨a, 3, none⟩ = some (.int .i64 p1.c.memory) := C 3 (by omega)
        have c4 : wr.cell? ⟨a, 4, none⟩ = some (.int .i64 p1.c.length) := C 4 (by omega)
        have c5 : wr.cell? ⟨a, 5, none⟩ = some (.int .i64 p1.c.target) := C 5 (by omega)
        have c6 : wr.cell? ⟨a, 6, none⟩ = some (.int .i64 p1.c.interval) := C 6 (by omega)
        have c7 : wr.cell? ⟨a, 7, none⟩ = some (.int .i64 p1.c.tau) := C 7 (by omega)
        have c8 : wr.cell? ⟨a, 8, none⟩ = some (.bool p1.c.ecn) := C 8 (by omega)
        have c9 : wr.cell? ⟨a, 9, none⟩ = some (.string p1.c.key) := C 9 (by omega)
        have c10 : wr.cell? ⟨a, 10, none⟩ = some (.int .i64 p1.now) := (h1.cell 10 (by omega)).trans (by rw [h1.c10])
        have c13 : wr.cell? ⟨a, 13, none⟩ = some (.slice (some ⟨g, 0, none⟩) p1.c.buckets p1.c.buckets) := (h1.cell 13 (by omega)).trans (by rw [h1.c13])
        have hlt := h1.lt
        have i1 : (i : Int) < p1.c.buckets := by omega
        have hna : ¬ wr.heap.size = a := by omega
        have hna' : ¬ a = wr.heap.size := by omega
        have HGU : Bx _ := ⟨fun wx (hb : Below wr.heap.size wr wx) => giveUp_any own1 (T + 1) (T + 4 + i) 1 g 95 (p1.c.buckets * 8) (i * 8) p1.ids fB (vq i) (p1.bk i) p1.c p1.now wx ((h1.bk i hi).below hb) ((Fr.below (T := fun _ => False) hb).junk hJ1) (by omega) (by omega) (by omega) (by have := ht.big; omega) (by have := ht.big; omega) S.ok.c S.ok.now (S.ok.bk i) (by omega) _ HR⟩
        have H1 : Bx (PtIs own1 wr T a g fP vF vO fB vq p1.counts p1 ∧ Sl evG own1 wr te 5 u1 L.length (evCells L) ∧ Junk own1 wr) := ⟨h1, hSl, hJ1⟩
        have HS : Bx _ := ⟨S⟩
        have HG : Bx _ := ⟨G⟩
        have HFED : Bx _ := ⟨hfed⟩
        have h00 : ¬ (own1 wr.heap.size = T + 1 ∨ own1 wr.heap.size = T + 4 + i ∨ own1 wr.heap.size = 1) := by rw [hJ1 _ (Nat.le_refl _)]; omega
        have hTa : ¬ (own1 a = T + 1 ∨ own1 a = T + 4 + i ∨ own1 a = 1) := by rw [h1.tn.row.tag]; have := ht.big; omega
        clear h1 hSl hJ1 S G hfed C
        simp only [Cf.val, gvVal] at HGU
        rw [Hi.out]
        go_wp2_with fail
        go_cut [7] (fun vg wx => ∃ own2 gp dv, vg = .pointer (some ⟨gp, 0, none⟩) ∧ wr.heap.size ≤ gp ∧ GvRel own own2 w wx T te a i gp L p1 u1 dv k1 d f fd m)
        case first =>
          go_region_held3 (fun w' => w'.cell? ⟨a, 0, none⟩ = some (.int .i64 p1.c.buckets) ∧ w'.cell? ⟨a, 1, none⟩ = some (.int .i64 p1.c.quantum) ∧ w'.cell? ⟨a, 2, none⟩ = some (.int .i64 p1.c.packets) ∧ w'.cell? ⟨a, 3, none⟩ = some (.int .i64 p1.c.memory) ∧ w'.cell? ⟨a, 4, none⟩ = some (.int .i64 p1.c.length) ∧ w'.cell? ⟨a, 5, none⟩ = some (.int .i64 p1.c.target) ∧ w'.cell? ⟨a, 6, none⟩ = some (.int .i64 p1.c.interval) ∧ w'.cell? ⟨a, 7, none⟩ = some (.int .i64 p1.c.tau) ∧ w'.cell? ⟨a, 8, none⟩ = some (.bool p1.c.ecn) ∧ w'.cell? ⟨a, 9, none⟩ = some (.string p1.c.key) ∧ w'.cell? ⟨a, 10, none⟩ = some (.int .i64 p1.now) ∧ w'.cell? ⟨a, 13, none⟩ = some (.slice (some ⟨g, 0, none⟩) p1.c.buckets p1.c.buckets)) (go_keep) ((go_at_call 63; refine (HGU.out _ ?_).mono ?_; (first | exact (Below.refl _ _).drew | exact ((Below.refl _ _).alloc (Nat.le_refl _) _).drew); rintro e w1 ⟨own2, dv, rfl, hP1⟩; obtain ⟨fB5, vq5, hB5, ho5, hf5, hs5⟩ := hP1.ex; obtain ⟨dx, dc, rfl⟩ := hs5.form; (try (obtain ⟨zlt, z0, z1, z2, z3, z4, z5, zz⟩ := given_after hf5 h00)); have d0 : w1.cell? ⟨a, 0, none⟩ = some (.int .i64 p1.c.buckets) := (hf5.cell (b := a) 0 (by simp; omega) hTa).trans (by go_simp); have d1 : w1.cell? ⟨a, 1, none⟩ = some (.int .i64 p1.c.quantum) := (hf5.cell (b := a) 1 (by simp; omega) hTa).trans (by go_simp); have d2 : w1.cell? ⟨a, 2, none⟩ = some (.int .i64 p1.c.packets) := (hf5.cell (b := a) 2 (by simp; omega) hTa).trans (by go_simp); have d3 : w1.cell? ⟨a, 3, none⟩ = some (.int .i64 p1.c.memory) := (hf5.cell (b := a) 3 (by simp; omega) hTa).trans (by go_simp); have d4 : w1.cell? ⟨a, 4, none⟩ = some (.int .i64 p1.c.length) := (hf5.cell (b := a) 4 (by simp; omega) hTa).trans (by go_simp); have d5 : w1.cell? ⟨a, 5, none⟩ = some (.int .i64 p1.c.target) := (hf5.cell (b := a) 5 (by simp; omega) hTa).trans (by go_simp); have d6 : w1.cell? ⟨a, 6, none⟩ = some (.int .i64 p1.c.interval) := (hf5.cell (b := a) 6 (by simp; omega) hTa).trans (by go_simp); have d7 : w1.cell? ⟨a, 7, none⟩ = some (.int .i64 p1.c.tau) := (hf5.cell (b := a) 7 (by simp; omega) hTa).trans (by go_simp); have d8 : w1.cell? ⟨a, 8, none⟩ = some (.bool p1.c.ecn) := (hf5.cell (b := a) 8 (by simp; omega) hTa).trans (by go_simp); have d9 : w1.cell? ⟨a, 9, none⟩ = some (.string p1.c.key) := (hf5.cell (b := a) 9 (by simp; omega) hTa).trans (by go_simp); have d10 : w1.cell? ⟨a, 10, none⟩ = some (.int .i64 p1.now) := (hf5.cell (b := a) 10 (by simp; omega) hTa).trans (by go_simp); have d13 : w1.cell? ⟨a, 13, none⟩ = some (.slice (some ⟨g, 0, none⟩) p1.c.buckets p1.c.buckets) := (hf5.cell (b := a) 13 (by simp; omega) hTa).trans (by go_simp)))
          · have GG := gv_got ht H1.out.1 H1.out.2.1 H1.out.2.2 HS.out.fr hi hb16 (Below.refl _ _).drew hB5 ho5 hf5 hs5
            have HGG : Bx _ := ⟨GG⟩
            have hsz := hf5.size
            have HSZ : Bx (wr.heap.size ≤ w1.heap.size) := ⟨by simp at hsz; omega⟩
            clear GG hP1 hB5 ho5 hf5 hs5 hsz
            go_wp2_with fail
            go_meet
            case rel => exact ⟨own2, _, _, rfl, HSZ.out, gv_made HGG.out hb16⟩
          · have GG := gv_got ht H1.out.1 H1.out.2.1 H1.out.2.2 HS.out.fr hi hb16 ((Below.refl _ _).alloc (Nat.le_refl _) _).drew hB5 ho5 hf5 hs5
            have HGG : Bx _ := ⟨GG⟩
            have hsz := hf5.size
            have HSZ : Bx (wr.heap.size ≤ w1.heap.size) := ⟨by simp at hsz; omega⟩
            clear GG hP1 hB5 ho5 hf5 hs5 hsz
            go_wp2_with fail
            go_meet
            case rel => exact ⟨own2, _, _, rfl, Nat.le_refl _, gv_laid ht H1.out.2.2 HGG.out hb16⟩
        case rest =>
          obtain ⟨own2, gp, dv, rfl, hgp, V⟩ := hcut
          obtain ⟨dx, dc, rfl⟩ := V.dr.form
          have g0 : wc.cell? ⟨gp, 0, none⟩ = some (.slice dx d.length dc) := V.gv.cells 0 _ rfl
          have hN : L = [] → u1 = .slice none 0 0 := fun e => HS.out.nil (by rw [HL.out]; exact e)
          have HI : Bx (InRel own own2 w wc T te a i gp L p1 u1 (.slice dx d.length dc) k1 d f fd m 0) := ⟨⟨by rw [List.take_zero, Pt.happens_nil]; exact V.pt, V.gv, V.dr, by simpa using V.sl, by simpa using hN, V.fr, V.junk⟩⟩
          clear c0 c1 c2 c3 c4 c5 c6 c7 c8 c9 c10 c13 HGU H1 hTa h00 hlt hna hna' V hN
          go_wp2_with fail
          go_loopw [1, 43] (fun ve vi wr2 => ∃ own3 v3 j, j ≤ d.length ∧ ve = v3 ∧ vi = .int .i64 (j : Nat) ∧ InRel own own3 w wr2 T te a i gp L p1 v3 (.slice dx d.length dc) k1 d f fd m j) (fun _ vi _ => d.length - (intOf vi).toNat)
          case atStart => exact ⟨own2, u1, 0, Nat.zero_le _, rfl, rfl, HI.out⟩
          case round =>
            clear HI
            obtain ⟨own3, v3, j, hj', rfl, rfl, V⟩ := hrel
            by_cases hlt : j < d.length
            · obtain ⟨x, hx⟩ : ∃ x, d[j]? = some x := ⟨d[j], by simp [hlt]⟩
              obtain ⟨g1, off, cap, hdv, hg1, ho1, x0, x1, x2⟩ := sl_fmAt V.dr hx
              injection hdv with e1 _ e2
              subst e1 e2
              have j1 : (j : Int) < d.length := by omega
              have hdl : d.length ≤ 65 := by
                have h1 := HS.out.ok.len i hi
                cases hfd2 : fd with
                | true => have := (HG.out.yes hfd2).1; simp only at this; omega
                | false => have := (HG.out.no hfd2).1; simp only at this; rw [this] at h1; exact h1
              have hcl := HS.out.ok.counts_lt hid1 4
              have hcq := (p1.put i k1).drops_counts i (d.take j) 4
              rw [show (p1.put i k1).counts 4 = p1.counts 4 from rfl, List.length_take] at hcq
              obtain ⟨q, Hq⟩ : ∃ q, Bx ((p1.put i k1).happens 4 i (d.take j) = q) := ⟨_, ⟨rfl⟩⟩
              have hqn : q.now = p1.now := by rw [← Hq.out]; rfl
              have hqc : q.c = p1.c := by rw [← Hq.out]; rfl
              obtain ⟨M, HM⟩ : ∃ M, Bx (L ++ (d.take j).map (fun f => (⟨p1.now, 4, f.id, i, f.s⟩ : Ev)) = M) := ⟨_, ⟨rfl⟩⟩
              have hMl : M.length ≤ 1100 := by rw [← HM.out]; simp; omega
              have hP := V.pt
              have hS := V.sl
              rw [Hq.out] at hP hcq
              rw [HM.out] at hS
              have hbq : q.c.buckets ≤ 16 := by rw [hqc]; exact hb16
              have HV : Bx (PtAt own3 wr T a q ∧ Sl evG own3 wr te 5 u1 M.length (evCells M) ∧ Fr (PTag T te) own own3 w wr ∧ Junk own3 wr ∧ Box own3 wr gp [.slice (some ⟨g1, off, none⟩) d.length dc, .int .i64 f.id, .string f.s, .int .i64 f.since, .bool fd, .bool m] ∧ Sl anyG own3 wr 1 3 (.slice (some ⟨g1, off, none⟩) d.length dc) d.length (fmCells d)) := ⟨hP, hS, V.fr, V.junk, V.gv, V.dr⟩
              clear V hP hS
              go_wp2_with fail
              have hbA : Below wr.heap.size wr (wr.alloc (Obj.cells #[.int .i64 x.id, .string x.s, .int .i64 x.since] 98)) := (Below.refl _ _).alloc (Nat.le_refl _) _
              obtain ⟨g', fP', vF', vO', fB', vq', hq'⟩ := HV.out.1
              have hh := phappen_any own3 T a 4 i x q.counts q _ ⟨g', _, _, _, _, _, hq'.below hbA hbq⟩ hbq (by omega) (by omega) (by omega)
              rw [hqn] at hh
              have HH : Bx _ := ⟨hh⟩
              clear hh hq'
              refine HH.out.mono ?_
              rintro e w4 ⟨rfl, hP4⟩
              have hbig := ht.big
              have hte2 := ht.te2
              have hout := ht.out
              have hS4 := (HV.out.2.1.below hbA).fr hP4.fr (fun e => by omega)
              have hF4 : Fr (PTag T te) own own3 w w4 := (HV.out.2.2.1.trans (Fr.below hbA)).trans (hP4.fr.mono (fun t e => .inl (by omega)))
              have hB4 := (HV.out.2.2.2.2.1.below hbA).fr hP4.fr (by omega)
              have hD4 := (HV.out.2.2.2.2.2.below hbA).fr hP4.fr (by omega)
              have hJ4 : Junk own3 w4 := hF4.junk hj
              have H4 : Bx (PcAt own3 w4 T a (fun i => if i = 4 then q.counts 4 + 1 else q.counts i) q ∧ Sl evG own3 w4 te 5 u1 M.length (evCells M) ∧ Fr (PTag T te) own own3 w w4 ∧ Junk own3 w4 ∧ Box own3 w4 gp [.slice (some ⟨g1, off, none⟩) d.length dc, .int .i64 f.id, .string f.s, .int .i64 f.since, .bool fd, .bool m] ∧ Sl anyG own3 w4 1 3 (.slice (some ⟨g1, off, none⟩) d.length dc) d.length (fmCells d)) := ⟨hP4.pt, hS4, hF4, hJ4, hB4, hD4⟩
              clear hP4 hS4 hF4 hB4 hD4 hJ4 HH HV x0 x1 x2
              go_wp2_with (at_builtin; refine wpList_append_ev _ rfl _ _ rfl own3 te u1 M rfl (H4.out.2.1.below (((Below.refl _ _).alloc (Nat.le_refl _) _).alloc (by simp) _)) _ _ ⟨p1.now, 4, x.id, i, x.s⟩ rfl (by go_simp) (by go_simp) (by go_simp) (by go_simp) (by go_simp) (by omega) ?_)
              intro v5 w5 own5 hS5 hF5 db dk hv5
              have HR5 : Bx (InRel own own5 w w5 T te a i gp L p1 v5 (.slice (some ⟨g1, off, none⟩) d.length dc) k1 d f fd m (j + 1)) := by
                have htk : d.take (j + 1) = d.take j ++ [x] := by rw [List.take_add_one, hx]; rfl
                have hq5 : (p1.put i k1).happens 4 i (d.take (j + 1)) = q.happens 4 i [x] := by rw [htk, ← Pt.happens_snoc, Hq.out]
                have hM5 : L ++ (d.take (j + 1)).map (fun f => (⟨p1.now, 4, f.id, i, f.s⟩ : Ev)) = M ++ [⟨p1.now, 4, x.id, i, x.s⟩] := by rw [htk, List.map_append, ← List.append_assoc, HM.out]; rfl
                have hbB : Below w4.heap.size w4 ((w4.alloc (Obj.cells #[.int .i64 p1.now, .int .i64 4, .int .i64 x.id, .int .i64 i, .string x.s] 82)).alloc (Obj.cells #[.int .i64 p1.now, .int .i64 4, .int .i64 x.id, .int .i64 i, .string x.s] 82)) := ((Below.refl _ _).alloc (Nat.le_refl _) _).alloc (by simp) _
                refine ⟨⟨?_, (H4.out.2.2.2.2.1.below hbB).fr hF5 (by omega), (H4.out.2.2.2.2.2.below hbB).fr hF5 (by omega), ?_, ?_, (H4.out.2.2.1.trans (Fr.below hbB)).trans (hF5.mono (fun t e => .inr (.inr e))), hF5.junk ((Fr.below (T := fun _ => False) hbB).junk H4.out.2.2.2.1)⟩⟩
                · rw [hq5]
                  obtain ⟨g', fP', vF', vO', fB', vq', hq'⟩ := H4.out.1
                  have h' := (hq'.below hbB hbq).fr hF5 (fun t h1 h2 e => by omega) hbq
                  refine ⟨g', fP', vF', vO', fB', vq', ⟨h'.tn, h'.cf, h'.c10, h'.c11, h'.c12, h'.c13, fun c hc => ?_, h'.bk⟩⟩
                  rw [h'.cnt c hc, Pt.counts_happens _ 4 i x (by omega) (by omega) c]
                  by_cases e3 : c = 4
                  · rw [if_pos e3, if_pos e3]
                  · rw [if_neg e3, if_neg e3]
                    by_cases e6 : c = 6
                    · rw [if_pos e6, e6]; rfl
                    · rw [if_neg e6]
                · rw [hM5]; simpa using hS5
                · rw [hM5]; intro e; simp at e
              clear hS5 hF5 H4
              go_wp2_with fail
              go_roundw
              case rel => exact ⟨own5, v5, j + 1, by omega, rfl, by go_num, HR5.out⟩
              case measure => simp [intOf]; omega
            · obtain rfl : j = d.length := by omega
              have hP := V.pt
              have hS := V.sl
              have hNl := V.nil
              rw [List.take_length] at hP hS hNl
              obtain ⟨q, Hq⟩ : ∃ q, Bx ((p1.put i k1).happens 4 i d = q) := ⟨_, ⟨rfl⟩⟩
              have hqn : q.now = p1.now := by rw [← Hq.out]; rfl
              have hqc : q.c = p1.c := by rw [← Hq.out]; rfl
              have hqt : q.tn = p1.tn := by rw [← Hq.out]; rfl
              obtain ⟨M, HM⟩ : ∃ M, Bx (L ++ d.map (fun f => (⟨p1.now, 4, f.id, i, f.s⟩ : Ev)) = M) := ⟨_, ⟨rfl⟩⟩
              rw [Hq.out] at hP
              rw [HM.out] at hS hNl
              have hbq : q.c.buckets ≤ 16 := by rw [hqc]; exact hb16
              have g0 : wr.cell? ⟨gp, 0, none⟩ = some (.slice dx d.length dc) := V.gv.cells 0 _ rfl
              have g1 : wr.cell? ⟨gp, 1, none⟩ = some (.int .i64 f.id) := V.gv.cells 1 _ rfl
              have g2 : wr.cell? ⟨gp, 2, none⟩ = some (.string f.s) := V.gv.cells 2 _ rfl
              have g3 : wr.cell? ⟨gp, 3, none⟩ = some (.int .i64 f.since) := V.gv.cells 3 _ rfl
              have g4 : wr.cell? ⟨gp, 4, none⟩ = some (.bool fd) := V.gv.cells 4 _ rfl
              have g5 : wr.cell? ⟨gp, 5, none⟩ = some (.bool m) := V.gv.cells 5 _ rfl
              have glt := V.gv.lt
              have gtag := V.gv.tag
              obtain ⟨g', fP', vF', vO', fB', vq', hq'⟩ := hP
              have c1 : wr.cell? ⟨a, 1, none⟩ = some (.int .i64 p1.c.quantum) := (hq'.cell 1 (by omega)).trans (by rw [hq'.cf 1 (by omega), hqc]; rfl)
              have halt := hq'.lt
              have hdl : d.length ≤ 65 := by
                have h1 := HS.out.ok.len i hi
                cases hfd2 : fd with
                | true => have := (HG.out.yes hfd2).1; simp only at this; omega
                | false => have := (HG.out.no hfd2).1; simp only at this; rw [this] at h1; exact h1
              have hMl : M.length ≤ 1100 := by rw [← HM.out]; simp; omega
              have HV : Bx (PtIs own3 wr T a g' fP' vF' vO' fB' vq' q.counts q ∧ Sl evG own3 wr te 5 u1 M.length (evCells M) ∧ Fr (PTag T te) own own3 w wr ∧ Junk own3 wr ∧ (M = [] → u1 = .slice none 0 0)) := ⟨hq', hS, V.fr, V.junk, hNl⟩
              clear V hq' hS hNl
              have hSrv : p1.serve = p1.served (k1, d, f, fd, m) := by unfold Pt.serve; rw [Hi.out, HR.out]
              have SI := Pt.serve_is p1 HS.out.ok hfd (by rw [Hi.out]; exact hpos)
              rw [hSrv] at SI
              have hcnt : ∀ c, q.counts c < 4000000000 := fun c => by
                have h1 := HS.out.ok.counts_lt hid1 c
                have h2 := (p1.put i k1).drops_counts i d c
                rw [Hq.out, show (p1.put i k1).counts c = p1.counts c from rfl] at h2
                omega
              have HC : Bx _ := ⟨hcnt⟩
              have hbig := ht.big
              have hte2 := ht.te2
              have hout := ht.out
              clear hSrv hcnt
              cases hfd2 : fd
              · rw [hfd2] at g4 HFED SI
                have hsv : p1.served (k1, d, f, false, m) = ({ q with tn := p1.tn.leave }, false) := by
                  unfold Pt.served
                  simp only
                  rw [if_neg (by simp), Hi.out, Hq.out]
                rw [hsv] at HFED SI
                obtain ⟨q2, Hq2⟩ : ∃ q2 : Pt, Bx ({ q with tn := p1.tn.leave } = q2) := ⟨_, ⟨rfl⟩⟩
                rw [Hq2.out] at HFED SI
                have hq2t : q2.tn = p1.tn.leave := by rw [← Hq2.out]
                have hq2c : q2.c = p1.c := by rw [← Hq2.out]; exact hqc
                have hq2d : q2.done = p1.done ++ d.map (fun f => (⟨p1.now, 4, f.id, i, f.s⟩ : Ev)) := by rw [← Hq2.out, ← Hq.out]; rfl
                have hfeed : Pt.feeds gk q2 = p' := HFED.out
                have hsz2 := (SI.no rfl).2
                have hsz1 := HS.out.size
                obtain ⟨k', rfl⟩ : ∃ k', gk = k' + 1 := ⟨gk - 1, by omega⟩
                rw [Pt.feeds_by] at hfeed
                have N := q2.tn.next_is q2.c.buckets q2.c.quantum SI.ok.tn SI.ok.c.b2 SI.ok.c.q1 SI.ok.c.q2
                have hok3 := q2.next_ok SI.ok
                obtain ⟨t2, Ht2⟩ : ∃ t2, Bx (q2.tn.next q2.c.quantum = t2) := ⟨_, ⟨rfl⟩⟩
                rw [Ht2.out] at N hok3 hfeed
                have hfr2 := SI.frames
                have hold : p1.tn.old.length ≤ 900 := by have := HS.out.ok.tn.len; omega
                have hnx : ∀ (ownx : Nat → Nat) (fx : Nat → Value) (vFx vOx : Value) (wx : World), TnAt ownx wx T (T + 2) (T + 3) a 63 55 14 fx vFx vOx p1.tn.leave → Calls Try.prog 62 #[.pointer (some ⟨a, 14, none⟩), .int .i64 p1.c.quantum] wx fun e w' => ∃ own', e = .returned (.tuple #[.int .i64 (t2.first.1 : Nat), .bool t2.first.2]) ∧ TnPost ownx own' wx w' T (T + 2) (T + 3) a 63 55 14 fx t2 := by
                  intro ownx fx vFx vOx wx hx
                  rw [← hq2c]
                  rw [← hq2t] at hx
                  exact next_any ownx T (T + 2) (T + 3) a 63 55 14 q2.c.quantum q2.tn.pot fx vFx vOx q2.tn t2 wx hx (SI.ok.tn.ok SI.ok.c.b2) SI.ok.c.q1 SI.ok.c.q2 Ht2 N.1
                have HNX : Bx _ := ⟨hnx⟩
                have HE : Bx (Pt.ok { q2 with tn := t2 } ∧ Pt.fedBy k' { q2 with tn := t2 } = p' ∧ t2.passB = false ∧ t2.size ≤ q2.tn.size ∧ q2.ids = p1.ids ∧ q2.frames + d.length ≤ p1.frames) := ⟨hok3, hfeed, N.1, N.2.2, SI.goes.ids, by
                  have e1 := (HG.out.no hfd2).1
                  simp only at e1
                  have e2 := (HG.out.no hfd2).2
                  simp only at e2
                  have hpf := p1.put_frames i k1 hi
                  rw [e1, e2] at hpf
                  have e3 : q2.frames = (p1.put i k1).frames := by rw [← Hq2.out, ← Hq.out]; rfl
                  simp at hpf
                  omega⟩
                have htn := HV.out.1.tn
                rw [hqt] at htn
                have HL1 : Bx _ := ⟨leave_any own3 T (T + 2) (T + 3) a 63 55 14 fP' vF' vO' p1.tn p1.tn.leave wr htn hold ⟨rfl⟩⟩
                clear hnx N hok3 hfeed SI htn HFED hsv
                go_wp2_with fail
                refine HL1.out.mono ?_
                rintro e w2 ⟨rfl, own4, hP4⟩
                obtain ⟨fP4, vF4, vO4, h4, ho4, hf4⟩ := hP4.ex
                have hA4 := HV.out.1.turn h4 ho4 hf4
                have hF4 : Fr (PTag T te) own own4 w w2 := HV.out.2.2.1.trans (hf4.mono (fun t e => .inl (by omega)))
                have hS4 := HV.out.2.1.fr hf4 (fun e => by omega)
                have e1 : w2.cell? ⟨a, 1, none⟩ = some (.int .i64 p1.c.quantum) := (hA4.cell 1 (by omega)).trans (by rw [hA4.cf 1 (by omega)]; show some (cfF q.c 1) = _; rw [hqc]; rfl)
                have H4 : Bx (PtIs own4 w2 T a g' fP4 vF4 vO4 fB' vq' q.counts { q with tn := p1.tn.leave } ∧ Sl evG own4 w2 te 5 u1 M.length (evCells M) ∧ Fr (PTag T te) own own4 w w2) := ⟨hA4, hS4, hF4⟩
                have hlt2 := hA4.lt
                clear hP4 h4 ho4 hf4 hA4 hF4 hS4 c1 g0 g1 g2 g3 g4 g5 HL1
                go_wp2_with fail
                go_region_held3 (fun w' => w'.cell? ⟨a, 1, none⟩ = some (.int .i64 p1.c.quantum)) (go_keep) ((go_at_call 62; refine (HNX.out own4 fP4 vF4 vO4 _ ?_).mono ?_; exact H4.out.1.tn.below ((Below.refl _ _).drew); rintro e w3 ⟨own5, rfl, hP5⟩; obtain ⟨fP5, vF5, vO5, h5, ho5, hf5⟩ := hP5.ex; have hA5 := (H4.out.1.below ((Below.refl _ _).drew) hbq).turn h5 ho5 hf5; have e2 : w3.cell? ⟨a, 1, none⟩ = some (.int .i64 p1.c.quantum) := (hA5.cell 1 (by omega)).trans (by rw [hA5.cf 1 (by omega)]; show some (cfF q.c 1) = _; rw [hqc]; rfl)))
                all_goals
                  have HRel : Bx (FdRel own w w3 T te a E p p' k' { q2 with tn := t2 } u1 (l ++ d.map (fun f => (⟨p1.now, 4, f.id, i, f.s⟩ : Ev))) own5) := by
                    have hEL : E ++ (l ++ d.map (fun f => (⟨p1.now, 4, f.id, i, f.s⟩ : Ev))) = M := by rw [← List.append_assoc, HL.out, HM.out]
                    refine ⟨⟨?_, ?_, ?_, ?_, H4.out.2.2.drew.trans (hf5.mono (fun t e => .inl (by omega))), HE.out.1, ?_, HE.out.2.2.1, HE.out.2.1, ?_, ?_⟩⟩
                    · show q2.done = _
                      rw [hq2d, HS.out.done, List.append_assoc]
                    · have e3 : ({ q2 with tn := t2 } : Pt) = { q with tn := t2 } := by rw [← Hq2.out]
                      rw [e3]
                      exact ⟨g', fP5, vF5, vO5, fB', vq', hA5⟩
                    · rw [hEL]; exact (H4.out.2.1.below ((Below.refl _ _).drew)).fr hf5 (fun e => by omega)
                    · rw [hEL]; exact HV.out.2.2.2.2
                    · show q2.ids ≤ _
                      rw [HE.out.2.2.2.2.1]; exact hid1
                    · have := HE.out.2.2.2.1
                      show t2.size ≤ k'
                      omega
                    · rw [hEL, ← HM.out]
                      have := HE.out.2.2.2.2.2
                      show (L ++ _).length + q2.frames ≤ 1000
                      simp
                      omega
                  clear hP5 h5 ho5 hf5 hA5
                  go_wp2_with fail
                  go_roundg k'
                  case rel => exact ⟨own5, _, u1, _, rfl, rfl, rfl, HRel.out⟩
                  case measure => omega
              · rw [hfd2] at g4 HFED SI
                obtain ⟨K, HK⟩ : ∃ K : Nat, Bx ((if m = true then 2 else 1) = K) := ⟨_, ⟨rfl⟩⟩
                have hgy := HG.out.yes hfd2
                simp only at hgy
                have hl2 := HS.out.ok.c.l2
                have hu2 := HS.out.ok.c.u2
                have hnow1 := HS.out.ok.now
                have hfs : f.s.size ≤ 200 := by omega
                have hd1 := HS.out.ok.tn.lo i
                have hd2 := HS.out.ok.tn.hi i
                obtain ⟨t2, Ht2⟩ : ∃ t2, Bx (p1.tn.pay i f.s.size = t2) := ⟨_, ⟨rfl⟩⟩
                have hsv : p1.served (k1, d, f, true, m) = (Pt.happens { q with tn := t2, busy := true, upto := p1.now + f.s.size * p1.c.tau } K i [f], true) := by
                  unfold Pt.served
                  simp only
                  rw [if_pos trivial, Hi.out, Hq.out, HK.out, Ht2.out]
                rw [hsv] at HFED SI
                have hp' : Pt.happens { q with tn := t2, busy := true, upto := p1.now + f.s.size * p1.c.tau } K i [f] = p' := HFED.out
                have hdone : p'.done = p.done ++ (l ++ (d.map (fun f => (⟨p1.now, 4, f.id, i, f.s⟩ : Ev)) ++ [⟨p1.now, K, f.id, i, f.s⟩])) := by
                  rw [← hp', ← Hq.out]
                  show (p1.done ++ d.map _) ++ [_].map _ = _
                  rw [HS.out.done]
                  simp [Pt.put, Pt.happens]
                have htn := HV.out.1.tn
                rw [hqt] at htn
                have HPY : Bx _ := ⟨fun wx (hb : Below wr.heap.size wr wx) => pay_any own3 T (T + 2) (T + 3) a 63 55 14 i f.s.size fP' vF' vO' p1.tn t2 wx (htn.below hb) (by omega) (by omega) (by omega) (by omega) Ht2⟩
                have HD : Bx (p'.done = p.done ++ (l ++ (d.map (fun f => (⟨p1.now, 4, f.id, i, f.s⟩ : Ev)) ++ [⟨p1.now, K, f.id, i, f.s⟩])) ∧ Pt.happens { q with tn := t2, busy := true, upto := p1.now + f.s.size * p1.c.tau } K i [f] = p') := ⟨hdone, hp'⟩
                have hTg : ¬ (own3 gp = T ∨ own3 gp = T + 2 ∨ own3 gp = T + 3) := by rw [gtag]; omega
                clear hdone hp' htn SI HFED hsv c1 hgy
                go_wp2_with fail
                go_region_held3 (fun w' => w'.cell? ⟨gp, 2, none⟩ = some (.string f.s)) (go_keep) ((go_at_call 64; refine (HPY.out _ ?_).mono ?_; exact (Below.refl _ _).drew; rintro e w2 ⟨rfl, hP4⟩; obtain ⟨fP4, vF4, vO4, h4, ho4, hf4⟩ := hP4.ex; have f2 : w2.cell? ⟨gp, 2, none⟩ = some (.string f.s) := (hf4.cell (b := gp) 2 (by simp; omega) hTg).trans (by go_simp)))
                have f0 : w2.cell? ⟨gp, 0, none⟩ = some (.slice dx d.length dc) := (hf4.cell (b := gp) 0 (by simp; omega) hTg).trans (by go_simp)
                have f1 : w2.cell? ⟨gp, 1, none⟩ = some (.int .i64 f.id) := (hf4.cell (b := gp) 1 (by simp; omega) hTg).trans (by go_simp)
                have f3 : w2.cell? ⟨gp, 3, none⟩ = some (.int .i64 f.since) := (hf4.cell (b := gp) 3 (by simp; omega) hTg).trans (by go_simp)
                have f4 : w2.cell? ⟨gp, 4, none⟩ = some (.bool true) := (hf4.cell (b := gp) 4 (by simp; omega) hTg).trans (by go_simp)
                have f5 : w2.cell? ⟨gp, 5, none⟩ = some (.bool m) := (hf4.cell (b := gp) 5 (by simp; omega) hTg).trans (by go_simp)
                have hA4 := (HV.out.1.below ((Below.refl _ _).drew) hbq).turn h4 ho4 hf4
                have hF4 : Fr (PTag T te) own own3 w w2 := HV.out.2.2.1.drew.trans (hf4.mono (fun t e => .inl (by omega)))
                have hS4 := (HV.out.2.1.below ((Below.refl _ _).drew)).fr hf4 (fun e => by omega)
                have hJ4 : Junk own3 w2 := hF4.junk hj
                have H4 : Bx (PcAt own3 w2 T a q.counts { q with tn := t2 } ∧ Sl evG own3 w2 te 5 u1 M.length (evCells M) ∧ Fr (PTag T te) own own3 w w2 ∧ Junk own3 w2) := ⟨⟨g', fP4, vF4, vO4, fB', vq', hA4⟩, hS4, hF4, hJ4⟩
                have hsnd := psend_any own3 T a i (.slice dx d.length dc) f true m q.counts { q with tn := t2 } w2 H4.out.1 (by omega) hJ4 hbq hfs (by show q.c.tau ≤ _; rw [hqc]; exact hu2) (by show q.now ≤ _; rw [hqn]; exact hnow1) (fun c => Nat.lt_trans (HC.out c) (by omega))
                simp only [gvVal] at hsnd
                rw [show ({ q with tn := t2 } : Pt).now = p1.now from hqn, HK.out] at hsnd
                have HSND : Bx _ := ⟨hsnd⟩
                clear hP4 h4 ho4 hf4 hA4 hF4 hS4 hJ4 hsnd g0 g1 g2 g3 g4 g5 HPY
                go_wp2_with fail
                refine HSND.out.mono ?_
                rintro e w3 ⟨rfl, hP5⟩
                have hS5 := H4.out.2.1.fr hP5.fr (fun e => by omega)
                have hF5 : Fr (PTag T te) own own3 w w3 := H4.out.2.2.1.trans (hP5.fr.mono (fun t e => .inl (by omega)))
                have H5 : Bx (PcAt own3 w3 T a _ _ ∧ Sl evG own3 w3 te 5 u1 M.length (evCells M) ∧ Fr (PTag T te) own own3 w w3) := ⟨hP5.pt, hS5, hF5⟩
                clear hP5 hS5 hF5 HSND f0 f1 f2 f3 f4 f5
                go_wp2_with (at_builtin; refine wpList_append_ev _ rfl _ _ rfl own3 te u1 M rfl (H5.out.2.1.below (((Below.refl _ _).alloc (Nat.le_refl _) _).alloc (by simp) _)) _ _ ⟨p1.now, K, f.id, i, f.s⟩ rfl (by go_simp) (by go_simp) (by go_simp) (by go_simp) (by go_simp) (by omega) ?_)
                intro v6 w6 own6 hS6 hF6 db dk hv6
                have HFin : Bx (EvPost own w w6 T te a E p p' v6) := by
                  have hbB : Below w3.heap.size w3 ((w3.alloc (Obj.cells #[.int .i64 p1.now, .int .i64 K, .int .i64 f.id, .int .i64 i, .string f.s] 82)).alloc (Obj.cells #[.int .i64 p1.now, .int .i64 K, .int .i64 f.id, .int .i64 i, .string f.s] 82)) := ((Below.refl _ _).alloc (Nat.le_refl _) _).alloc (by simp) _
                  have hEL : E ++ (l ++ (d.map (fun f => (⟨p1.now, 4, f.id, i, f.s⟩ : Ev)) ++ [⟨p1.now, K, f.id, i, f.s⟩])) = M ++ [⟨p1.now, K, f.id, i, f.s⟩] := by rw [← List.append_assoc, HL.out, ← List.append_assoc, HM.out]
                  refine ⟨⟨own6, _, HD.out.1, ?_, ?_, ?_, (H5.out.2.2.trans (Fr.below hbB)).trans (hF6.mono (fun t e => .inr (.inr e)))⟩⟩
                  · rw [← HD.out.2]
                    obtain ⟨g', fP', vF', vO', fB', vq', hq'⟩ := H5.out.1
                    have h' := (hq'.below hbB hbq).fr hF6 (fun t h1 h2 e => by omega) hbq
                    have hK12 : K = 1 ∨ K = 2 := by rw [← HK.out]; split <;> omega
                    refine ⟨g', fP', vF', vO', fB', vq', ⟨h'.tn, h'.cf, h'.c10.trans (by show Value.int .i64 (p1.now : Int) = .int .i64 (q.now : Int); rw [hqn]), h'.c11, h'.c12.trans (by show Value.int .i64 ((p1.now + f.s.size * q.c.tau : Nat) : Int) = .int .i64 ((p1.now + f.s.size * p1.c.tau : Nat) : Int); rw [hqc]), h'.c13, fun c hc => ?_, h'.bk⟩⟩
                    rw [h'.cnt c hc, Pt.counts_happens _ K i f (by omega) (by omega) c]
                    show Value.int .i64 ((if c = K then q.counts c + 1 else if c = 6 then q.counts 6 + f.s.size else q.counts c : Nat) : Int) = .int .i64 ((if c = K then q.counts K + 1 else if c = 6 then q.counts 6 + (if K = 1 ∨ K = 2 then f.s.size else 0) else q.counts c : Nat) : Int)
                    rw [if_pos hK12]
                    by_cases e3 : c = K
                    · rw [if_pos e3, if_pos e3, e3]
                    · rw [if_neg e3, if_neg e3]
                  · rw [hEL]; simpa using hS6
                  · rw [hEL]; intro e; simp at e
                clear hS6 hF6 H5 H4
                go_wp2_with fail
                go_ret
                exact ⟨v6, rfl, HFin.out⟩

end Go.Proofs.Ytnkicbopebgppaa

namespace Go.Proofs.Ytnkicbopebgppaa
open Go.RowKit Fl

theorem Pt.serve_sum (p : Pt) (h : p.ok) (hf : p.tn.first.2 = true) : p.serve.1.done.length + p.serve.1.frames ≤ p.done.length + p.frames := by
  have hb := h.tn.first_lt hf
  have G := (p.bk p.tn.first.1).giveUp_is p.c p.now p.ids h.c (h.bk _)
  unfold Pt.serve
  rcases hR : (p.bk p.tn.first.1).giveUp p.c p.now with ⟨k, d, f, fd, m⟩
  rw [hR] at G
  have g2 := G.no
  have g3 := G.yes
  simp only at g2 g3
  have hpf := p.put_frames p.tn.first.1 k hb
  have hdl : ((p.put p.tn.first.1 k).happens 4 p.tn.first.1 d).done.length = p.done.length + d.length := by
    show (p.done ++ d.map _).length = _
    simp
  unfold Pt.served
  simp only
  cases hfd : fd with
  | true =>
    rw [if_pos rfl]
    obtain ⟨e1, _, _⟩ := g3 hfd
    show (((p.put p.tn.first.1 k).happens 4 p.tn.first.1 d).done ++ [f].map _).length + (p.put p.tn.first.1 k).frames ≤ _
    rw [List.length_append, hdl]
    simp
    omega
  | false =>
    rw [if_neg (by simp)]
    obtain ⟨e1, e2⟩ := g2 hfd
    have e3 : (p.bk p.tn.first.1).q.length = d.length := by rw [e1]
    have e4 : k.q.length = 0 := by rw [e2]; rfl
    show ((p.put p.tn.first.1 k).happens 4 p.tn.first.1 d).done.length + (p.put p.tn.first.1 k).frames ≤ _
    rw [hdl]
    omega

theorem Pt.feeds_sum : ∀ (n : Nat) (p : Pt), p.ok → (Pt.feeds n p).done.length + (Pt.feeds n p).frames ≤ p.done.length + p.frames := by
  intro n
  induction n with
  | zero => intro p _; exact Nat.le_refl _
  | succ n ih =>
    intro p h
    have N := p.tn.next_is p.c.buckets p.c.quantum h.tn h.c.b2 h.c.q1 h.c.q2
    have h1 := p.next_ok h
    rw [Pt.feeds]
    by_cases hf : (p.tn.next p.c.quantum).first.2 = false
    · rw [if_pos hf]; exact Nat.le_refl _
    · rw [if_neg hf]
      have hf' : (p.tn.next p.c.quantum).first.2 = true := by simpa using hf
      have S := Pt.serve_is { p with tn := p.tn.next p.c.quantum } h1 hf' (Tn.pass_no N.1 hf')
      have X := Pt.serve_sum { p with tn := p.tn.next p.c.quantum } h1 hf'
      rcases hs : Pt.serve { p with tn := p.tn.next p.c.quantum } with ⟨p1, b⟩
      rw [hs] at S X
      have X' : p1.done.length + p1.frames ≤ p.done.length + p.frames := X
      cases b with
      | true => exact X'
      | false => exact Nat.le_trans (ih p1 S.ok) X'

set_option maxRecDepth 100000 in
set_option maxHeartbeats 3200000 in
theorem padvance_no (own : Nat → Nat) (T a : Nat) (cn : Nat → Nat) (p : Pt) (n : Int) (w : World) (h : PcAt own w T a cn p) (hn : n < 0 ∨ 4611686018427387904 < (p.now : Int) + n) (hnow : p.now ≤ 4611686018427387904) :
    Calls Try.prog 33 #[.pointer (some ⟨a, 0, none⟩), .int .i64 n] w fun e w' => e = .returned (.tuple #[.slice none 0 0, .int .i64 4]) ∧ w' = w := by
  obtain ⟨g, fP, vF, vO, fB, vq, h⟩ := h
  have c10 : w.cell? ⟨a, 10, none⟩ = some (.int .i64 p.now) := (h.cell 10 (by omega)).trans (by rw [h.c10])
  clear h
  go_enter Try.func33, Try.ntmps33
  by_cases h0 : n < 0
  · go_wp2_with fail
    go_ret2
    exact ⟨rfl, rfl⟩
  · have h1 : 4611686018427387904 - (p.now : Int) < n := by omega
    go_wp2_with fail
    go_ret2
    exact ⟨rfl, rfl⟩

/-- Where Advance stands. -/
structure AdRel (own own1 : Nat → Nat) (w wr : World) (T te a stop k : Nat) (p pR p1 : Pt) (v1 : Value) (l : List Ev) : Prop where
  done : p1.done = p.done ++ l
  pt : PtAt own1 wr T a p1
  sl : Sl evG own1 wr te 5 v1 l.length (evCells l)
  nil : l = [] → v1 = .slice none 0 0
  fr : Fr (PTag T te) own own1 w wr
  ok : p1.ok
  ids : p1.ids ≤ 16777216
  now : p1.now ≤ stop
  runs : Pt.runs stop k p1 = pR
  fuel : p1.frames < k ∨ ¬ (p1.busy = true ∧ p1.upto ≤ stop)
  sum : p1.done.length + p1.frames ≤ p.done.length + p.frames

set_option maxRecDepth 100000 in
set_option maxHeartbeats 6400000 in
theorem padvance_any (own : Nat → Nat) (T te a : Nat) (p : Pt) (n : Nat) (w : World) (h : PtAt own w T a p) (ht : Tags T te) (hj : Junk own w) (hok : p.ok) (hid : p.ids ≤ 16777216) (hn : p.now + n ≤ 4611686018427387904) (p' : Pt) (hp' : Bx (p.advance n = p')) :
    Calls Try.prog 33 #[.pointer (some ⟨a, 0, none⟩), .int .i64 n] w fun e w' => ∃ v', e = .returned (.tuple #[v', .int .i64 0]) ∧ EvPost own w w' T te a [] p p' v' := by
  have H0 : Bx (AdRel own own w w T te a (p.now + n) (p.frames + 1) p (Pt.runs (p.now + n) (p.frames + 1) p) p (.slice none 0 0) []) := ⟨⟨by simp, h, Sl.nil _ _ _ _ _, fun _ => rfl, Fr.refl _ _ _, hok, hid, by omega, rfl, .inl (by omega), Nat.le_refl _⟩⟩
  have hfr := hok.fr
  have c10 : w.cell? ⟨a, 10, none⟩ = some (.int .i64 p.now) := by
    obtain ⟨g, fP, vF, vO, fB, vq, h⟩ := h
    exact (h.cell 10 (by omega)).trans (by rw [h.c10])
  obtain ⟨pR, HpR⟩ : ∃ pR, Bx (Pt.runs (p.now + n) (p.frames + 1) p = pR) := ⟨_, ⟨rfl⟩⟩
  have HP' : Bx (p' = { pR with now := p.now + n }) := ⟨by rw [← hp'.out, ← HpR.out]; rfl⟩
  rw [HpR.out] at H0
  obtain ⟨stop, Hst⟩ : ∃ stop : Nat, Bx (p.now + n = stop) := ⟨_, ⟨rfl⟩⟩
  have est : (p.now : Int) + n = stop := by have := Hst.out; omega
  have hst : stop ≤ 4611686018427387904 := by have := Hst.out; omega
  rw [Hst.out] at H0 HP'
  have j1 : ¬ ((n : Int) < 0) := by omega
  have j2 : decide (4611686018427387904 - (p.now : Int) < n) = false := by simp; omega
  have j3 : decide ((n : Int) < 0) = false := by simp
  clear h hp' HpR hok
  go_enter Try.func33, Try.ntmps33
  go_wp2_with fail
  go_loopg [7] (p.frames + 1) (fun k ve wr => ∃ own1 p1 v1 l, ve = v1 ∧ AdRel own own1 w wr T te a stop k p pR p1 v1 l)
  case atStart => exact ⟨own, p, _, [], rfl, H0.out⟩
  case round =>
    clear H0
    obtain ⟨own1, p1, v1, l, rfl, V⟩ := hrel
    have hP := V.pt
    obtain ⟨g, fP, vF, vO, fB, vq, h1⟩ := hP
    have d10 : wr.cell? ⟨a, 10, none⟩ = some (.int .i64 p1.now) := (h1.cell 10 (by omega)).trans (by rw [h1.c10])
    have d11 : wr.cell? ⟨a, 11, none⟩ = some (.bool p1.busy) := (h1.cell 11 (by omega)).trans (by rw [h1.c11])
    have d12 : wr.cell? ⟨a, 12, none⟩ = some (.int .i64 p1.upto) := (h1.cell 12 (by omega)).trans (by rw [h1.c12])
    have hz := h1.frozen
    have hlt := h1.lt
    by_cases hg : p1.busy = true ∧ p1.upto ≤ stop
    · obtain ⟨k', rfl⟩ : ∃ k', gk = k' + 1 := by
        rcases V.fuel with hf | hf
        · exact ⟨gk - 1, by omega⟩
        · exact absurd hg hf
      have hbu := hg.1
      have j4 : (p1.upto : Int) ≤ stop := by have := hg.2; omega
      rw [hbu] at d11
      have hr := V.runs
      rw [Pt.runs, if_pos hg] at hr
      have hup := V.ok.up hbu
      have hok2 := p1.at_ok V.ok p1.upto hup.1 (by have := hg.2; omega)
      obtain ⟨q, Hq⟩ : ∃ q : Pt, Bx ({ p1 with now := p1.upto, busy := false } = q) := ⟨_, ⟨rfl⟩⟩
      rw [Hq.out] at hr hok2
      have F := q.feed_is hok2
      have FS := Pt.feeds_sum (q.tn.size + 1) q hok2
      obtain ⟨q2, Hq2⟩ : ∃ q2 : Pt, Bx (q.feed = q2) := ⟨_, ⟨rfl⟩⟩
      rw [Hq2.out] at hr F
      rw [show Pt.feeds (q.tn.size + 1) q = q2 from Hq2.out] at FS
      have h2 := h1.set (p' := { p1 with now := p1.upto }) (cn' := p1.counts) 10 (.int .i64 p1.upto) (by omega) rfl rfl rfl (fun i hi => by rw [if_neg (by omega)]) rfl rfl rfl (by omega) (fun i hi => by rw [if_neg (by omega)])
      have h3 := h2.set (p' := { p1 with now := p1.upto, busy := false }) (cn' := p1.counts) 11 (.bool false) (by omega) rfl rfl rfl (fun i hi => by rw [if_neg (by omega)]) rfl rfl rfl (by omega) (fun i hi => by rw [if_neg (by omega)])
      have hF0 : Fr (fun t => t = T) own1 own1 wr ((wr.setCell ⟨a, 10, none⟩ (.int .i64 p1.upto)).setCell ⟨a, 11, none⟩ (.bool false)) := ((Fr.refl _ _ _).setCell _ _ _ h1.tn.row.tag).setCell _ _ _ h1.tn.row.tag
      have hbig := ht.big
      have hte2 := ht.te2
      have hout := ht.out
      have hS3 := V.sl.fr hF0 (by omega)
      have hA3 : PtAt own1 ((wr.setCell ⟨a, 10, none⟩ (.int .i64 p1.upto)).setCell ⟨a, 11, none⟩ (.bool false)) T a q := by
        rw [← Hq.out]
        exact ⟨g, _, vF, vO, fB, vq, h3⟩
      have hJ3 : Junk own1 ((wr.setCell ⟨a, 10, none⟩ (.int .i64 p1.upto)).setCell ⟨a, 11, none⟩ (.bool false)) := hF0.junk (V.fr.junk hj)
      have hqf : q.frames = p1.frames := by rw [← Hq.out]; rfl
      have hqd : q.done = p1.done := by rw [← Hq.out]
      have hqi : q.ids = p1.ids := by rw [← Hq.out]
      have hqb : q.busy = false := by rw [← Hq.out]
      have hqn : q.now = p1.upto := by rw [← Hq.out]
      have hsum := V.sum
      have hll : l.length + q.frames ≤ 1000 := by
        have h1 := V.done
        rw [h1, List.length_append] at hsum
        omega
      have HFD : Bx _ := ⟨pfeed_any own1 T te a q l u7 _ hA3 ht hJ3 hok2 (by rw [hqi]; exact V.ids) hS3 V.nil hll q2 Hq2⟩
      have HV : Bx (Fr (PTag T te) own own1 w wr ∧ p1.done = p.done ++ l ∧ Pt.runs stop k' q2 = pR ∧ FeedIs q q2 ∧ q2.done.length + q2.frames ≤ q.done.length + q.frames) := ⟨V.fr, V.done, hr, F, FS⟩
      have HF0 : Bx _ := ⟨hF0⟩
      have HFU : Bx _ := ⟨V.fuel⟩
      have hid1 := V.ids
      clear V h1 h2 h3 hS3 hA3 hJ3 F FS hr hF0 hg
      go_wp2_with fail
      refine HFD.out.mono ?_
      rintro e w2 ⟨v2, rfl, hP2⟩
      have HRel : Bx (∃ own2 l2, AdRel own own2 w w2 T te a stop k' p pR q2 v2 l2) := by
        obtain ⟨own2, m, hd, hA, hS, hN, hF⟩ := hP2.ex
        refine ⟨own2, l ++ m, ⟨by rw [hd, hqd, HV.out.2.1, List.append_assoc], hA, hS, hN, (HV.out.1.trans (HF0.out.mono (fun t e => .inl (by omega)))).trans hF, HV.out.2.2.2.1.ok, by rw [HV.out.2.2.2.1.goes.ids, hqi]; exact hid1, by rw [HV.out.2.2.2.1.goes.now, hqn]; omega, HV.out.2.2.1, ?_, ?_⟩⟩
        · rcases HV.out.2.2.2.1.sent with e1 | ⟨e1, e2⟩
          · exact .inr (fun e => by rw [e1, hqb] at e; simp at e)
          · rcases HFU.out with e3 | e3
            · exact .inl (by omega)
            · exact absurd ⟨hbu, by omega⟩ e3
        · have := HV.out.2.2.2.2
          rw [hqd] at this
          omega
      clear hP2 HFD HF0 HFU
      go_wp2_with fail
      go_roundg k'
      case rel =>
        obtain ⟨own2, l2, hR⟩ := HRel.out
        exact ⟨own2, q2, v2, l2, rfl, hR⟩
      case measure => omega
    · have hr : p1 = pR := by
        rw [← V.runs]
        cases gk with
        | zero => rfl
        | succ k => rw [Pt.runs, if_neg hg]
      have h2 := h1.set (p' := { p1 with now := stop }) (cn' := p1.counts) 10 (.int .i64 stop) (by omega) rfl rfl rfl (fun i hi => by rw [if_neg (by omega)]) rfl rfl rfl (by omega) (fun i hi => by rw [if_neg (by omega)])
      have hbig := ht.big
      have hte2 := ht.te2
      have hout := ht.out
      have HFin : Bx (EvPost own w (wr.setCell ⟨a, 10, none⟩ (.int .i64 stop)) T te a [] p p' u7) := by
        have hF0 : Fr (fun t => t = T) own1 own1 wr (wr.setCell ⟨a, 10, none⟩ (.int .i64 stop)) := (Fr.refl _ _ _).setCell _ _ _ h1.tn.row.tag
        rw [HP'.out, ← hr]
        exact ⟨⟨own1, l, V.done, ⟨g, _, vF, vO, fB, vq, h2⟩, V.sl.fr hF0 (by omega), V.nil, V.fr.trans (hF0.mono (fun t e => .inl (by omega)))⟩⟩
      clear V h1 h2 hr
      cases hbu : p1.busy
      · rw [hbu] at d11
        go_wp2_with fail
        go_ret2
        exact ⟨u7, rfl, HFin.out⟩
      · rw [hbu] at d11
        have j4 : ¬ (p1.upto : Int) ≤ stop := by
          have : ¬ p1.upto ≤ stop := fun e => hg ⟨hbu, e⟩
          omega
        clear hg
        go_wp2_with fail
        go_ret2
        exact ⟨u7, rfl, HFin.out⟩

end Go.Proofs.Ytnkicbopebgppaa

namespace Go.Proofs.Ytnkicbopebgppaa
open Go.RowKit Fl

theorem Pt.sheds_sum : ∀ (n : Nat) (p : Pt), p.ok → (Pt.sheds n p).done.length + (Pt.sheds n p).frames = p.done.length + p.frames := by
  intro n
  induction n with
  | zero => intro p _; rfl
  | succ n ih =>
    intro p h
    rw [Pt.sheds]
    cases ht : p.tooMuch with
    | false => rw [if_neg (by simp)]
    | true =>
      rw [if_pos rfl]
      obtain ⟨h1, h2, _⟩ := p.shedOnce_ok h (p.frames_pos h ht)
      have e1 : p.shedOnce.done.length = p.done.length + 1 := by
        show (p.done ++ [_].map _).length = _
        simp
      rw [ih _ h1]
      omega

set_option maxHeartbeats 800000 in
theorem parrive_empty (a : Nat) (s : ByteArray) (w : World) (hs : s.size = 0) :
    Calls Try.prog 26 #[.pointer (some ⟨a, 0, none⟩), .string s] w fun e w' => e = .returned (.tuple #[.int .i64 (-1), .slice none 0 0, .int .i64 2]) ∧ w' = w := by
  have h0 : (s.size : Int) = 0 := by omega
  go_enter Try.func26, Try.ntmps26
  go_wp2_with fail
  refine bodyPost_ret (v := .tuple #[.int .i64 (-1), .slice none 0 0, .int .i64 2]) (by simp [results, Try.results26, go_sem]) rfl ⟨rfl, rfl⟩

set_option maxHeartbeats 800000 in
theorem parrive_long (own : Nat → Nat) (T a : Nat) (cn : Nat → Nat) (p : Pt) (s : ByteArray) (w : World) (h : PcAt own w T a cn p) (hs0 : 0 < s.size) (hs : p.c.length < s.size) :
    Calls Try.prog 26 #[.pointer (some ⟨a, 0, none⟩), .string s] w fun e w' => e = .returned (.tuple #[.int .i64 (-1), .slice none 0 0, .int .i64 3]) ∧ w' = w := by
  obtain ⟨g, fP, vF, vO, fB, vq, h⟩ := h
  have c4 : w.cell? ⟨a, 4, none⟩ = some (.int .i64 p.c.length) := (h.cell 4 (by omega)).trans (by rw [h.cf 4 (by omega)]; rfl)
  clear h
  have h0 : ((s.size : Int) == 0) = false := beq_false_of_ne (by omega)
  have h1 : (p.c.length : Int) < s.size := by omega
  go_enter Try.func26, Try.ntmps26
  go_wp2_with fail
  refine bodyPost_ret (v := .tuple #[.int .i64 (-1), .slice none 0 0, .int .i64 3]) (by simp [results, Try.results26, go_sem]) rfl ⟨rfl, rfl⟩

set_option maxRecDepth 100000 in
set_option maxHeartbeats 6400000 in
theorem parrive_any (own : Nat → Nat) (T te a : Nat) (p : Pt) (s : ByteArray) (w : World) (h : PtAt own w T a p) (ht : Tags T te) (hj : Junk own w) (hok : p.ok) (h64 : p.frames ≤ 64) (hid : p.ids < 16777216) (hs1 : 1 ≤ s.size) (hs2 : s.size ≤ p.c.length) (p' : Pt) (hp' : Bx (p.arrive s = p')) :
    Calls Try.prog 26 #[.pointer (some ⟨a, 0, none⟩), .string s] w fun e w' => ∃ v', e = .returned (.tuple #[.int .i64 p.ids, v', .int .i64 0]) ∧ EvPost own w w' T te a [] p p' v' := by
  have hbig := ht.big
  have hte2 := ht.te2
  have hout := ht.out
  obtain ⟨b, Hb⟩ : ∃ b, Bx (place p.c s = b) := ⟨_, ⟨rfl⟩⟩
  have hb := place_lt p.c s hok.c
  rw [Hb.out] at hb
  have hb16 := hok.c.b2
  have hl2 := hok.c.l2
  have hq2 := hok.c.q2
  have J := p.joined_ok hok h64 b s hb hs1 hs2
  have hlen := hok.len b hb
  obtain ⟨g, fP, vF, vO, fB, vq, h⟩ := h
  have c1 : w.cell? ⟨a, 1, none⟩ = some (.int .i64 p.c.quantum) := (h.cell 1 (by omega)).trans (by rw [h.cf 1 (by omega)]; rfl)
  have c4 : w.cell? ⟨a, 4, none⟩ = some (.int .i64 p.c.length) := (h.cell 4 (by omega)).trans (by rw [h.cf 4 (by omega)]; rfl)
  have c10 : w.cell? ⟨a, 10, none⟩ = some (.int .i64 p.now) := (h.cell 10 (by omega)).trans (by rw [h.c10])
  have c13 : w.cell? ⟨a, 13, none⟩ = some (.slice (some ⟨g, 0, none⟩) p.c.buckets p.c.buckets) := (h.cell 13 (by omega)).trans (by rw [h.c13])
  have c48 : w.cell? ⟨a, 48, none⟩ = some (.int .i64 p.ids) := (h.cell (48 + 0) (by omega)).trans (by rw [h.cnt 0 (by omega)]; rfl)
  have hz := h.frozen
  have hlt := h.lt
  have h0 : ((s.size : Int) == 0) = false := beq_false_of_ne (by omega)
  have h1 : ¬ (p.c.length : Int) < s.size := by omega
  have H : Bx _ := ⟨h⟩
  have HJ : Bx _ := ⟨J⟩
  clear h J
  go_enter Try.func26, Try.ntmps26
  go_wp2_with fail
  go_region
  have hA1 := (H.out.count 0 (p.ids + 1) (by omega) ((p.ids : Int) + 1) (by omega)).below ((Below.refl _ _).drew) hb16
  have hF1 : Fr (PTag T te) own own w (w.setCell ⟨a, 48, none⟩ (.int .i64 ((p.ids : Int) + 1))).drew := ((Fr.refl _ own w).setCell a 48 _ (by rw [H.out.tn.row.tag]; exact .inl (by omega))).drew
  have hPL := pplace_any own T a _ p s _ ⟨g, _, _, _, _, _, hA1⟩ hok.c.b1 hb16 hok.c.k16 (by omega) b Hb
  have HPL : Bx _ := ⟨hPL⟩
  have HA1 : Bx _ := ⟨hA1⟩
  have HF1 : Bx _ := ⟨hF1⟩
  clear hA1 hF1 hPL
  go_wp2_with fail
  refine HPL.out.mono ?_
  rintro e w2 ⟨rfl, hb2⟩
  have hA2 := HA1.out.below hb2 hb16
  have hF2 : Fr (PTag T te) own own w w2 := HF1.out.trans (Fr.below hb2)
  have hJ2 : Junk own w2 := hF2.junk hj
  have d1 : w2.cell? ⟨a, 1, none⟩ = some (.int .i64 p.c.quantum) := (hA2.cell 1 (by omega)).trans (by rw [hA2.cf 1 (by omega)]; rfl)
  have d10 : w2.cell? ⟨a, 10, none⟩ = some (.int .i64 p.now) := (hA2.cell 10 (by omega)).trans (by rw [hA2.c10])
  have d13 : w2.cell? ⟨a, 13, none⟩ = some (.slice (some ⟨g, 0, none⟩) p.c.buckets p.c.buckets) := (hA2.cell 13 (by omega)).trans (by rw [hA2.c13])
  have hlt2 := hA2.lt
  have i1 : (b : Int) < p.c.buckets := by omega
  obtain ⟨k1, Hk1⟩ : ∃ k1 : Bk, Bx ({ p.bk b with q := (p.bk b).q ++ [⟨p.ids, s, p.now⟩] } = k1) := ⟨_, ⟨rfl⟩⟩
  have HJN : Bx _ := ⟨fun wx (hb' : Below w2.heap.size w2 wx) => bjoin_any own (T + 1) (T + 4 + b) g 95 (p.c.buckets * 8) (b * 8) fB (vq b) (p.bk b) k1 ⟨p.ids, s, p.now⟩ wx ((hA2.bk b hb).below hb') (by omega) (by show s.size ≤ 200; omega) Hk1⟩
  have hTa : ¬ (own a = T + 1 ∨ own a = T + 4 + b) := by rw [hA2.tn.row.tag]; omega
  have HA2 : Bx _ := ⟨hA2⟩
  have HF2 : Bx (Fr (PTag T te) own own w w2 ∧ Junk own w2) := ⟨hF2, hJ2⟩
  clear hA2 hF2 hJ2 hb2 c1 c4 c10 c13 c48 hz HPL HA1 HF1
  go_wp2_with fail
  go_region_held3 (fun w' => w'.cell? ⟨a, 1, none⟩ = some (.int .i64 p.c.quantum) ∧ w'.cell? ⟨a, 10, none⟩ = some (.int .i64 p.now) ∧ w'.cell? ⟨a, 13, none⟩ = some (.slice (some ⟨g, 0, none⟩) p.c.buckets p.c.buckets)) (go_keep) ((go_at_call 47; refine (HJN.out _ ?_).mono ?_; exact (Below.refl _ _).drew; rintro e w3 ⟨rfl, own3, hP3⟩; obtain ⟨fB3, v3, hk3, ho3, hf3⟩ := hP3.ex; have e1 : w3.cell? ⟨a, 1, none⟩ = some (.int .i64 p.c.quantum) := (hf3.cell (b := a) 1 (by simp; omega) hTa).trans (by go_simp); have e10 : w3.cell? ⟨a, 10, none⟩ = some (.int .i64 p.now) := (hf3.cell (b := a) 10 (by simp; omega) hTa).trans (by go_simp); have e13 : w3.cell? ⟨a, 13, none⟩ = some (.slice (some ⟨g, 0, none⟩) p.c.buckets p.c.buckets) := (hf3.cell (b := a) 13 (by simp; omega) hTa).trans (by go_simp)))
  have hA3 := (HA2.out.below ((Below.refl _ _).drew) hb16).put b hb hb16 hk3 ho3 hf3 (fun t h1 h2 h3 h4 e => by omega)
  have hF3 : Fr (PTag T te) own own3 w w3 := HF2.out.1.drew.trans (hf3.mono (fun t e => .inl (by omega)))
  have hJ3 : Junk own3 w3 := hF3.junk hj
  obtain ⟨t1, Ht1⟩ : ∃ t1, Bx (p.tn.enter b p.c.quantum = t1) := ⟨_, ⟨rfl⟩⟩
  have hfl : p.tn.fresh.length ≤ 900 := by have := hok.tn.len; omega
  have HEN : Bx _ := ⟨fun wx (hb' : Below w3.heap.size w3 wx) => enter_any own3 T (T + 2) (T + 3) a 63 55 14 b p.c.quantum _ vF vO p.tn t1 wx (hA3.tn.below hb') (by omega) hfl Ht1⟩
  have HA3 : Bx _ := ⟨hA3⟩
  have HF3 : Bx (Fr (PTag T te) own own3 w w3 ∧ Junk own3 w3) := ⟨hF3, hJ3⟩
  have hlt3 := hA3.lt
  clear hA3 hF3 hJ3 hP3 hk3 ho3 hf3 d1 d10 d13 HJN HA2
  go_wp2_with fail
  go_region_held3 (fun w' => w'.cell? ⟨a, 1, none⟩ = some (.int .i64 p.c.quantum)) (go_keep) ((go_at_call 48; refine (HEN.out _ ?_).mono ?_; exact (Below.refl _ _).drew; rintro e w4 ⟨rfl, own4, hP4⟩; obtain ⟨fP4, vF4, vO4, h4, ho4, hf4⟩ := hP4.ex; have hA4 := (HA3.out.below ((Below.refl _ _).drew) hb16).turn h4 ho4 hf4; have f1 : w4.cell? ⟨a, 1, none⟩ = some (.int .i64 p.c.quantum) := (hA4.cell 1 (by omega)).trans (by rw [hA4.cf 1 (by omega)]; rfl)))
  have hF4 : Fr (PTag T te) own own4 w w4 := HF3.out.1.drew.trans (hf4.mono (fun t e => .inl (by omega)))
  have hJ4 : Junk own4 w4 := hF4.junk hj
  obtain ⟨pj, Hpj⟩ : ∃ pj, Bx (p.joined b s = pj) := ⟨_, ⟨rfl⟩⟩
  have hAj : PtAt own4 w4 T a pj := by
    rw [← Hpj.out]
    have e1 : ({ p.put b k1 with ids := p.ids + 1, tn := t1 } : Pt) = p.joined b s := by rw [← Hk1.out, ← Ht1.out]; rfl
    rw [← e1]
    refine ⟨g, fP4, vF4, vO4, fB3, _, ⟨hA4.tn, hA4.cf, hA4.c10, hA4.c11, hA4.c12, hA4.c13, fun i hi => (hA4.cnt i hi).trans ?_, hA4.bk⟩⟩
    show Value.int .i64 ((if i = 0 then p.ids + 1 else p.counts i : Nat) : Int) = .int .i64 ((if i = 0 then p.ids + 1 else if i = 6 then outOf p.done else countOf p.done i : Nat) : Int)
    unfold Pt.counts
    by_cases e0 : i = 0
    · rw [if_pos e0, if_pos e0]
    · rw [if_neg e0, if_neg e0, if_neg e0]
  have hJok := HJ.out
  rw [Hpj.out] at hJok
  have hjd : pj.done = p.done := by rw [← Hpj.out]; rfl
  have hji : pj.ids = p.ids + 1 := by rw [← Hpj.out]; rfl
  obtain ⟨p2, Hp2⟩ : ∃ p2, Bx (pj.shed = p2) := ⟨_, ⟨rfl⟩⟩
  have SO := pj.shed_ok hJok.1
  rw [Hp2.out] at SO
  have hpp : p2.fedIfIdle = p' := by
    rw [← hp'.out]
    unfold Pt.arrive
    rw [Hb.out, Hpj.out, Hp2.out]
  have HSH : Bx _ := ⟨pshed_any own4 T te a pj [] (.slice none 0 0) w4 hAj ht hJ4 hJok.1 (by omega) (Sl.nil _ _ _ _ _) (fun _ => rfl) (by simp; omega) p2 Hp2⟩
  have HF4 : Bx (Fr (PTag T te) own own4 w w4) := ⟨hF4⟩
  have HSO : Bx _ := ⟨SO⟩
  have HPP : Bx _ := ⟨hpp⟩
  clear hF4 hJ4 hAj hA4 hP4 h4 ho4 hf4 SO hpp hJok HEN HA3 HF3 e1 e10 e13
  go_wp2_with fail
  refine HSH.out.mono ?_
  rintro e w5 ⟨v5, rfl, hP5⟩
  obtain ⟨own5, l, hd5, hA5, hS5, hN5, hF5⟩ := hP5.ex
  simp only [List.nil_append] at hS5 hN5
  have hF5' : Fr (PTag T te) own own5 w w5 := HF4.out.trans hF5
  have hJ5 : Junk own5 w5 := hF5'.junk hj
  have k11 : w5.cell? ⟨a, 11, none⟩ = some (.bool p2.busy) := by
    obtain ⟨g, fP, vF, vO, fB, vq, h⟩ := hA5
    exact (h.cell 11 (by omega)).trans (by rw [h.c11])
  have hsum : l.length + p2.frames ≤ 200 := by
    have h1 := HSO.out.1.dn
    have h2 := HSO.out.2.2.1
    have h3 := HJ.out.1.dn
    rw [Hpj.out] at h3
    have h4 := Pt.sheds_sum pj.frames pj (by rw [← Hpj.out]; exact HJ.out.1)
    rw [show Pt.sheds pj.frames pj = p2 from Hp2.out, hd5, List.length_append] at h4
    have h5 := HJ.out.1.fr
    rw [Hpj.out] at h5
    omega
  cases hbu : p2.busy
  · rw [hbu] at k11
    have hp3 : p2.feed = p' := by
      have := HPP.out
      unfold Pt.fedIfIdle at this
      rw [if_neg (by simp [hbu])] at this
      exact this
    have HFD : Bx _ := ⟨pfeed_any own5 T te a p2 l v5 w5 hA5 ht hJ5 HSO.out.1 (by rw [HSO.out.2.1.ids, hji]; omega) hS5 hN5 (by omega) p' ⟨hp3⟩⟩
    have H5 : Bx (Fr (PTag T te) own own5 w w5 ∧ p2.done = pj.done ++ l) := ⟨hF5', hd5⟩
    clear hP5 hA5 hS5 hN5 hF5 hF5' hJ5 hd5 hp3
    go_wp2_with fail
    refine HFD.out.mono ?_
    rintro e w6 ⟨v6, rfl, hP6⟩
    have HFin : Bx (EvPost own w w6 T te a [] p p' v6) := by
      obtain ⟨own6, m, hd6, hA6, hS6, hN6, hF6⟩ := hP6.ex
      exact ⟨⟨own6, l ++ m, by rw [hd6, H5.out.2, hjd, List.append_assoc], hA6, by simpa using hS6, by simpa using hN6, H5.out.1.trans hF6⟩⟩
    clear hP6
    go_wp2_with fail
    refine bodyPost_ret (v := .tuple #[.int .i64 p.ids, v6, .int .i64 0]) (by simp [results, Try.results26, go_sem]) rfl ⟨v6, rfl, HFin.out⟩
  · rw [hbu] at k11
    have hp3 : p2 = p' := by
      have := HPP.out
      unfold Pt.fedIfIdle at this
      rw [if_pos hbu] at this
      exact this
    have HFin : Bx (EvPost own w w5 T te a [] p p' v5) := by
      rw [← hp3]
      exact ⟨⟨own5, l, by rw [hd5, hjd], hA5, by simpa using hS5, by simpa using hN5, hF5'⟩⟩
    clear hP5 hA5 hS5 hN5 hF5 hF5' hJ5 hd5 hp3
    go_wp2_with fail
    refine bodyPost_ret (v := .tuple #[.int .i64 p.ids, v5, .int .i64 0]) (by simp [results, Try.results26, go_sem]) rfl ⟨v5, rfl, HFin.out⟩

end Go.Proofs.Ytnkicbopebgppaa

namespace Go.Proofs.Ytnkicbopebgppaa
open Go.RowKit Fl

/-- What a flush comes to, up to bucket n. -/
theorem flushEv_succ (now : Nat) (bk : Nat → Bk) (n : Nat) : flushEv now bk (n + 1) = flushEv now bk n ++ (bk n).q.map (fun f => ⟨now, 5, f.id, n, f.s⟩) := rfl

/-- Where flush stands: bucket i, j of its frames are gone. -/
def Pt.flushAt (p : Pt) (i : Nat) (q : List Fm) (gone : List Fm) : Pt :=
  { p with bk := fun x => if x < i then { p.bk x with q := [] } else if x = i then { p.bk i with q := q } else p.bk x, done := p.done ++ flushEv p.now p.bk i ++ gone.map (fun f => ⟨p.now, 5, f.id, i, f.s⟩) }

theorem Pt.flush_start (p : Pt) (i : Nat) (k : Bk) (hk : k = { p.bk i with q := k.q }) : (p.flushTo i).put i k = p.flushAt i k.q [] := by
  unfold Pt.flushAt Pt.flushTo Pt.put
  simp only [List.map_nil, List.append_nil, Pt.mk.injEq, true_and, and_true]
  funext x
  by_cases e : x = i
  · subst e; rw [if_pos rfl, if_neg (by omega), if_pos rfl]; exact hk
  · rw [if_neg e, if_neg e]

theorem Pt.flush_put (p : Pt) (i : Nat) (r gone : List Fm) (k : Bk) (hk : k = { p.bk i with q := k.q }) : (p.flushAt i r gone).put i k = p.flushAt i k.q gone := by
  unfold Pt.flushAt Pt.put
  simp only [Pt.mk.injEq, true_and, and_true]
  funext x
  by_cases e : x = i
  · subst e; rw [if_pos rfl, if_neg (by omega), if_pos rfl]; exact hk
  · rw [if_neg e, if_neg e, if_neg e]

theorem Pt.flush_happens (p : Pt) (i : Nat) (r gone : List Fm) (f : Fm) : (p.flushAt i r gone).happens 5 i [f] = p.flushAt i r (gone ++ [f]) := by
  unfold Pt.flushAt Pt.happens
  simp

theorem Pt.flush_done (p : Pt) (i : Nat) : p.flushAt i [] (p.bk i).q = p.flushTo (i + 1) := by
  unfold Pt.flushAt Pt.flushTo
  simp only [Pt.mk.injEq, true_and, flushEv_succ, List.append_assoc, and_true]
  funext x
  by_cases e : x < i
  · rw [if_pos e, if_pos (by omega)]
  · rw [if_neg e]
    by_cases e2 : x = i
    · subst e2; rw [if_pos rfl, if_pos (by omega)]
    · rw [if_neg e2, if_neg (by omega)]

theorem Pt.flush_bk (p : Pt) (i : Nat) (r gone : List Fm) : (p.flushAt i r gone).bk i = { p.bk i with q := r } := by
  show (if i < i then _ else if i = i then ({ p.bk i with q := r } : Bk) else p.bk i) = _
  rw [if_neg (by omega), if_pos rfl]

/-- Where flush stands between two buckets. -/
structure FlRel (own own1 : Nat → Nat) (w wr : World) (T te a : Nat) (p q : Pt) (E : List Ev) (v1 : Value) : Prop where
  pt : PtAt own1 wr T a q
  sl : Sl evG own1 wr te 5 v1 E.length (evCells E)
  nil : E = [] → v1 = .slice none 0 0
  fr : Fr (PTag T te) own own1 w wr
  done : q.done = p.done ++ E

theorem flush_counts (p : Pt) (hok : p.ok) (hid : p.ids ≤ 16777216) (i : Nat) (r gone : List Fm) (c : Nat) (hl : (flushEv p.now p.bk i).length + gone.length ≤ 1000) : (p.flushAt i r gone).counts c < 4000000000 := by
  have h1 := hok.dn
  have h2 := outOf_le p.done (fun e he => (hok.ev e he).2.2)
  have hd : (p.flushAt i r gone).done = p.done ++ (flushEv p.now p.bk i ++ gone.map (fun f => (⟨p.now, 5, f.id, i, f.s⟩ : Ev))) := by unfold Pt.flushAt; simp
  have hi : (p.flushAt i r gone).ids = p.ids := rfl
  have h3 := countOf_le (p.flushAt i r gone).done c
  rw [hd, List.length_append, List.length_append, List.length_map] at h3
  have h4 : outOf (flushEv p.now p.bk i ++ gone.map (fun f => (⟨p.now, 5, f.id, i, f.s⟩ : Ev))) = 0 := by
    rw [outOf_append]
    have hg : ∀ l : List Ev, (∀ e ∈ l, e.kind = 5) → outOf l = 0 := by
      intro l
      induction l with
      | nil => intro _; rfl
      | cons e l ih =>
        intro h
        rw [outOf, ih (fun x hx => h x (by simp [hx])), if_neg (by have := h e (by simp); omega)]
    have hf : ∀ n, ∀ e ∈ flushEv p.now p.bk n, e.kind = 5 := by
      intro n
      induction n with
      | zero => intro e he; simp [flushEv] at he
      | succ n ih =>
        intro e he
        rw [flushEv_succ, List.mem_append] at he
        rcases he with he | he
        · exact ih e he
        · obtain ⟨f, _, rfl⟩ := List.mem_map.1 he; rfl
    rw [hg _ (hf i), hg _ (fun e he => by obtain ⟨f, _, rfl⟩ := List.mem_map.1 he; rfl)]
  have h5 : outOf (p.flushAt i r gone).done ≤ 200 * p.done.length := by rw [hd, outOf_append, h4]; exact h2
  unfold Pt.counts
  rw [hd] at h5 ⊢
  rw [hi]
  split
  · omega
  · split <;> omega

/-- Where flush stands within a bucket. -/
structure FiRel (own own2 : Nat → Nat) (w wr : World) (T te a i fb : Nat) (p : Pt) (v2 : Value) (gone rest : List Fm) (f : Fm) (fd : Bool) : Prop where
  fl : FlRel own own2 w wr T te a p (p.flushAt i rest gone) (flushEv p.now p.bk i ++ gone.map (fun f => (⟨p.now, 5, f.id, i, f.s⟩ : Ev))) v2
  box : Box own2 wr fb [.int .i64 f.id, .string f.s, .int .i64 f.since]
  yes : fd = true → (p.bk i).q = gone ++ f :: rest
  no : fd = false → (p.bk i).q = gone ∧ rest = []

theorem Bk.drop_q (k : Bk) : k.drop.2.2 = { k with q := k.drop.2.2.q } ∧ (k.drop.2.1 = true → k.q = k.drop.1 :: k.drop.2.2.q) ∧ (k.drop.2.1 = false → k.q = [] ∧ k.drop.2.2.q = []) := by
  unfold Bk.drop
  rcases hq : k.q with _ | ⟨f, l⟩
  · exact ⟨rfl, fun e => by simp at e, fun _ => ⟨rfl, hq⟩⟩
  · exact ⟨rfl, fun _ => rfl, fun e => by simp at e⟩

set_option maxRecDepth 100000 in
set_option maxHeartbeats 6400000 in
theorem pflush_any (own : Nat → Nat) (T te a : Nat) (p : Pt) (w : World) (h : PtAt own w T a p) (ht : Tags T te) (hj : Junk own w) (hok : p.ok) (hid : p.ids ≤ 16777216) :
    Calls Try.prog 37 #[.pointer (some ⟨a, 0, none⟩)] w fun e w' => ∃ v', e = .returned v' ∧ EvPost own w w' T te a [] p p.flush v' := by
  have hbig := ht.big
  have hte2 := ht.te2
  have hout := ht.out
  have hb16 := hok.c.b2
  have hfl : ∀ i, (flushEv p.now p.bk i).length = framesTo p.bk i := fun i => (flushEv_ok p hok i).2
  have hmono : ∀ i, i ≤ p.c.buckets → framesTo p.bk i ≤ 65 := by
    have : ∀ j i, i ≤ j → framesTo p.bk i ≤ framesTo p.bk j := by
      intro j
      induction j with
      | zero => intro i hi; rw [show i = 0 by omega]; exact Nat.le_refl _
      | succ j ih =>
        intro i hi
        by_cases e : i = j + 1
        · rw [e]; exact Nat.le_refl _
        · have := ih i (by omega); rw [framesTo]; omega
    exact fun i hi => Nat.le_trans (this _ i hi) hok.fr
  have c13 : ∃ g, w.cell? ⟨a, 13, none⟩ = some (.slice (some ⟨g, 0, none⟩) p.c.buckets p.c.buckets) := by
    obtain ⟨g, fP, vF, vO, fB, vq, h⟩ := h
    exact ⟨g, (h.cell 13 (by omega)).trans (by rw [h.c13])⟩
  obtain ⟨g, c13⟩ := c13
  have H0 : Bx (FlRel own own w w T te a p (p.flushTo 0) (flushEv p.now p.bk 0) (.slice none 0 0)) := ⟨⟨by
    have e0 : p.flushTo 0 = p := by unfold Pt.flushTo; simp [flushEv]
    rw [e0]; exact h, Sl.nil _ _ _ _ _, fun _ => rfl, Fr.refl _ _ _, rfl⟩⟩
  have HFL : Bx _ := ⟨hfl⟩
  have HMO : Bx _ := ⟨hmono⟩
  clear h hfl hmono
  go_enter Try.func37, Try.ntmps37
  go_wp2_with fail
  go_loopw [3, 13] (fun ve vi wr => ∃ own1 v1 i, i ≤ p.c.buckets ∧ ve = v1 ∧ vi = .int .i64 (i : Nat) ∧ FlRel own own1 w wr T te a p (p.flushTo i) (flushEv p.now p.bk i) v1) (fun _ vi _ => p.c.buckets - (intOf vi).toNat)
  case atStart => exact ⟨own, _, 0, by omega, rfl, rfl, H0.out⟩
  case round =>
    clear H0
    obtain ⟨own1, v1, i, hi, rfl, rfl, V⟩ := hrel
    by_cases hlt : i < p.c.buckets
    · have i1 : (i : Int) < p.c.buckets := by omega
      obtain ⟨g1, fP, vF, vO, fB, vq, h1⟩ := V.pt
      have d13 : wr.cell? ⟨a, 13, none⟩ = some (.slice (some ⟨g1, 0, none⟩) p.c.buckets p.c.buckets) := (h1.cell 13 (by omega)).trans (by rw [h1.c13]; rfl)
      have hJ1 : Junk own1 wr := V.fr.junk hj
      have hbi : (p.flushTo i).bk i = p.bk i := by show (if i < i then _ else p.bk i) = _; rw [if_neg (by omega)]
      have hB := h1.bk i hlt
      rw [hbi] at hB
      obtain ⟨f0, fd0, k0, hk0⟩ : ∃ f0 fd0 k0, (p.bk i).drop = (f0, fd0, k0) := ⟨_, _, _, rfl⟩
      have HDR : Bx _ := ⟨bdrop_any own1 (T + 1) (T + 4 + i) g1 95 (p.c.buckets * 8) (i * 8) fB (vq i) (p.bk i) k0 f0 fd0 wr hB hJ1 (by omega) (by omega) ⟨hk0⟩⟩
      have H1 : Bx (PtIs own1 wr T a g1 fP vF vO fB vq (p.flushTo i).counts (p.flushTo i) ∧ (p.bk i).drop = (f0, fd0, k0)) := ⟨h1, hk0⟩
      have HV : Bx _ := ⟨V⟩
      clear V h1 hJ1 hB hbi hk0
      go_wp2_with fail
      refine HDR.out.mono ?_
      rintro e w2 ⟨rfl, hP2⟩
      obtain ⟨fB2, v2, hk2, ho2, hf2⟩ := hP2.ex
      have hdq := (p.bk i).drop_q
      rw [H1.out.2] at hdq
      simp only at hdq
      have hlen := hok.len i hlt
      have HI : Bx (FiRel own own1 w (w2.alloc (Obj.cells #[.int .i64 f0.id, .string f0.s, .int .i64 f0.since] 98)) T te a i w2.heap.size p u3 [] k0.q f0 fd0) := by
        have hbA : Below w2.heap.size w2 (w2.alloc (Obj.cells #[.int .i64 f0.id, .string f0.s, .int .i64 f0.since] 98)) := (Below.refl _ _).alloc (Nat.le_refl _) _
        have hA := (H1.out.1.put i hlt hb16 hk2 ho2 hf2 (fun t h1 h2 h3 h4 e => by omega)).below hbA hb16
        have hF : Fr (PTag T te) own own1 w w2 := HV.out.fr.trans (hf2.mono (fun t e => .inl (by omega)))
        have hc : (p.flushTo i).counts = (p.flushAt i k0.q []).counts := by
          have e1 : (p.flushAt i k0.q []).done = (p.flushTo i).done := by unfold Pt.flushAt Pt.flushTo; simp
          funext c
          unfold Pt.counts
          rw [e1]; rfl
        rw [hc, p.flush_start i k0 hdq.1] at hA
        refine ⟨⟨⟨⟨g1, fP, vF, vO, fB2, _, hA⟩, ?_, by simpa using HV.out.nil, hF.alloc _, ?_⟩, ?_, fun e => by simpa using hdq.2.1 e, fun e => by have := hdq.2.2 e; exact ⟨this.1, this.2⟩⟩⟩
        · have := (HV.out.sl.fr hf2 (fun e => by omega)).below hbA
          simpa using this
        · unfold Pt.flushAt; simp
        · exact Box.three _ _ _ ((hF.junk hj) _ (Nat.le_refl _)) (by simp) (by go_simp) (by go_simp) (by go_simp) (fun i => by go_simp)
      have hk0l : k0.q.length ≤ 65 := by
        cases hfd : fd0 with
        | true => have := hdq.2.1 hfd; rw [this] at hlen; simp at hlen; omega
        | false => have := (hdq.2.2 hfd).2; rw [this]; simp
      have hwle : w.heap.size ≤ w2.heap.size := Nat.le_trans HV.out.fr.size hf2.size
      clear hP2 hk2 ho2 hf2 hdq H1 HV HDR d13
      simp only [Fm.val]
      go_wp2_with fail
      go_loopg [3, 6] (if fd0 = true then k0.q.length + 1 else 0) (fun k ve vf wr2 => ∃ own2 v2 gone rest f fd, ve = v2 ∧ vf = .bool fd ∧ FiRel own own2 w wr2 T te a i w2.heap.size p v2 gone rest f fd ∧ k = if fd = true then rest.length + 1 else 0)
      case atStart => exact ⟨own1, u3, [], k0.q, f0, fd0, rfl, rfl, HI.out, rfl⟩
      case round =>
        clear HI
        obtain ⟨own2, v2, gone, rest, f, fd, rfl, rfl, V, hgk⟩ := hrel
        cases hfd : fd
        · have HF : Bx (FlRel own own2 w wr T te a p (p.flushTo (i + 1)) (flushEv p.now p.bk (i + 1)) u3) := by
            have hn := V.no hfd
            have hfl := V.fl
            rw [hn.2, ← hn.1, p.flush_done i, ← flushEv_succ] at hfl
            exact ⟨hfl⟩
          clear V
          go_wp2_with fail
          go_roundw
          case rel => exact ⟨own2, u3, i + 1, by omega, rfl, by go_num, HF.out⟩
          case measure => simp [intOf]; omega
        · have hy := V.yes hfd
          rw [hfd, if_pos rfl] at hgk
          obtain ⟨q, Hq⟩ : ∃ q, Bx (p.flushAt i rest gone = q) := ⟨_, ⟨rfl⟩⟩
          obtain ⟨M, HM⟩ : ∃ M, Bx (flushEv p.now p.bk i ++ gone.map (fun f => (⟨p.now, 5, f.id, i, f.s⟩ : Ev)) = M) := ⟨_, ⟨rfl⟩⟩
          have hgl : gone.length + rest.length + 1 = (p.bk i).q.length := by rw [hy]; simp; omega
          have hfi := HMO.out i (by omega)
          have hfe := HFL.out i
          have hcl := flush_counts p hok hid i rest gone 5 (by omega)
          rw [Hq.out] at hcl
          have hMl : M.length ≤ 1000 := by rw [← HM.out]; simp; omega
          have hfl := V.fl
          rw [Hq.out, HM.out] at hfl
          have hqn : q.now = p.now := by rw [← Hq.out]; rfl
          have hqc : q.c = p.c := by rw [← Hq.out]; rfl
          have hbq : q.c.buckets ≤ 16 := by rw [hqc]; exact hb16
          have b0 : wr.cell? ⟨w2.heap.size, 0, none⟩ = some (.int .i64 f.id) := V.box.cells 0 _ rfl
          have b1 : wr.cell? ⟨w2.heap.size, 1, none⟩ = some (.string f.s) := V.box.cells 1 _ rfl
          have b2 : wr.cell? ⟨w2.heap.size, 2, none⟩ = some (.int .i64 f.since) := V.box.cells 2 _ rfl
          have blt := V.box.lt
          have hh := phappen_any own2 T a 5 i f q.counts q wr hfl.pt hbq (by omega) (by omega) (by omega)
          rw [hqn] at hh
          simp only [Fm.val] at hh
          have HH : Bx _ := ⟨hh⟩
          have HB : Bx _ := ⟨V.box⟩
          have HFLR : Bx _ := ⟨hfl⟩
          clear hh V hfl
          go_wp2_with fail
          refine HH.out.mono ?_
          rintro e w4 ⟨rfl, hP4⟩
          have hS4 := HFLR.out.sl.fr hP4.fr (fun e => by omega)
          have hF4 : Fr (PTag T te) own own2 w w4 := HFLR.out.fr.trans (hP4.fr.mono (fun t e => .inl (by omega)))
          have hB4 := HB.out.fr hP4.fr (by omega)
          have H4 : Bx (PcAt own2 w4 T a (fun x => if x = 5 then q.counts 5 + 1 else q.counts x) q ∧ Sl evG own2 w4 te 5 u3 M.length (evCells M) ∧ Fr (PTag T te) own own2 w w4 ∧ Box own2 w4 w2.heap.size [.int .i64 f.id, .string f.s, .int .i64 f.since]) := ⟨hP4.pt, hS4, hF4, hB4⟩
          clear hP4 hS4 hF4 hB4 HH b0 b1 b2
          go_wp2_with (at_builtin; refine wpList_append_ev _ rfl _ _ rfl own2 te u3 M rfl (H4.out.2.1.below (((Below.refl _ _).alloc (Nat.le_refl _) _).alloc (by simp) _)) _ _ ⟨p.now, 5, f.id, i, f.s⟩ rfl (by go_simp) (by go_simp) (by go_simp) (by go_simp) (by go_simp) (by omega) ?_)
          intro v5 w5 own5 hS5 hF5 db dk hv5
          have hbB : Below w4.heap.size w4 ((w4.alloc (Obj.cells #[.int .i64 p.now, .int .i64 5, .int .i64 f.id, .int .i64 i, .string f.s] 82)).alloc (Obj.cells #[.int .i64 p.now, .int .i64 5, .int .i64 f.id, .int .i64 i, .string f.s] 82)) := ((Below.refl _ _).alloc (Nat.le_refl _) _).alloc (by simp) _
          have hF5' : Fr (PTag T te) own own5 w w5 := (H4.out.2.2.1.trans (Fr.below hbB)).trans (hF5.mono (fun t e => .inr (.inr e)))
          have hB5 := (H4.out.2.2.2.below hbB).fr hF5 (by omega)
          have hJ5 : Junk own5 w5 := hF5'.junk hj
          obtain ⟨g5, fP5, vF5, vO5, fB5, vq5, hq5⟩ := H4.out.1
          have hA5 := (hq5.below hbB hbq).fr hF5 (fun t h1 h2 e => by omega) hbq
          have hlt5 : i < q.c.buckets := by rw [hqc]; exact hlt
          obtain ⟨f6, fd6, k6, hk6⟩ : ∃ f6 fd6 k6, (q.bk i).drop = (f6, fd6, k6) := ⟨_, _, _, rfl⟩
          have hdq := (q.bk i).drop_q
          rw [hk6] at hdq
          simp only at hdq
          have hqbk : q.bk i = { p.bk i with q := rest } := by rw [← Hq.out]; exact p.flush_bk i rest gone
          have d13 : w5.cell? ⟨a, 13, none⟩ = some (.slice (some ⟨g5, 0, none⟩) p.c.buckets p.c.buckets) := (hA5.cell 13 (by omega)).trans (by rw [hA5.c13, hqc])
          have HDR : Bx _ := ⟨bdrop_any own5 (T + 1) (T + 4 + i) g5 95 (q.c.buckets * 8) (i * 8) fB5 (vq5 i) (q.bk i) k6 f6 fd6 w5 (hA5.bk i hlt5) hJ5 (by omega) (by omega) ⟨hk6⟩⟩
          have H5 : Bx (PtIs own5 w5 T a g5 fP5 vF5 vO5 fB5 vq5 (fun x => if x = 5 then q.counts 5 + 1 else q.counts x) q ∧ Sl evG own5 w5 te 5 v5 (M ++ [(⟨p.now, 5, f.id, i, f.s⟩ : Ev)]).length (evCells (M ++ [⟨p.now, 5, f.id, i, f.s⟩])) ∧ Fr (PTag T te) own own5 w w5 ∧ Box own5 w5 w2.heap.size [.int .i64 f.id, .string f.s, .int .i64 f.since]) := ⟨hA5, by simpa using hS5, hF5', hB5⟩
          clear hS5 hF5 hF5' hB5 hJ5 hq5 hA5 H4 hk6
          go_wp2_with fail
          refine HDR.out.mono ?_
          rintro e w6 ⟨rfl, hP6⟩
          obtain ⟨fB6, v6, hk6, ho6, hf6⟩ := hP6.ex
          have hA6 := H5.out.1.put i hlt5 hbq hk6 ho6 hf6 (fun t h1 h2 h3 h4 e => by omega)
          have hF6 : Fr (PTag T te) own own5 w w6 := H5.out.2.2.1.trans (hf6.mono (fun t e => .inl (by omega)))
          have hS6 := H5.out.2.1.fr hf6 (fun e => by omega)
          have hB6 := H5.out.2.2.2.fr hf6 (by omega)
          have b0 : w6.cell? ⟨w2.heap.size, 0, none⟩ = some (.int .i64 f.id) := hB6.cells 0 _ rfl
          have b1 : w6.cell? ⟨w2.heap.size, 1, none⟩ = some (.string f.s) := hB6.cells 1 _ rfl
          have b2 : w6.cell? ⟨w2.heap.size, 2, none⟩ = some (.int .i64 f.since) := hB6.cells 2 _ rfl
          have bz := hB6.frozen
          have blt6 := hB6.lt
          have HR : Bx (FiRel own own5 w (((w6.setCell ⟨w2.heap.size, 0, none⟩ (.int .i64 f6.id)).setCell ⟨w2.heap.size, 1, none⟩ (.string f6.s)).setCell ⟨w2.heap.size, 2, none⟩ (.int .i64 f6.since)) T te a i w2.heap.size p v5 (gone ++ [f]) k6.q f6 fd6) := by
            have k0' : Fr (fun t => t = 0) own5 own5 w6 (((w6.setCell ⟨w2.heap.size, 0, none⟩ (.int .i64 f6.id)).setCell ⟨w2.heap.size, 1, none⟩ (.string f6.s)).setCell ⟨w2.heap.size, 2, none⟩ (.int .i64 f6.since)) := (((Fr.refl _ _ _).setCell _ _ _ hB6.tag).setCell _ _ _ hB6.tag).setCell _ _ _ hB6.tag
            have hst : (q.put i k6).happens 5 i [f] = p.flushAt i k6.q (gone ++ [f]) := by
              rw [← Hq.out, p.flush_put i rest gone k6 (by rw [hdq.1, hqbk]), p.flush_happens]
            have hEq : flushEv p.now p.bk i ++ (gone ++ [f]).map (fun f => (⟨p.now, 5, f.id, i, f.s⟩ : Ev)) = M ++ [⟨p.now, 5, f.id, i, f.s⟩] := by rw [List.map_append, ← List.append_assoc, HM.out]; rfl
            refine ⟨⟨⟨?_, ?_, ?_, ?_, ?_⟩, ?_, fun e => ?_, fun e => ?_⟩⟩
            · rw [← hst]
              have h' := hA6.fr k0' (fun t h1 h2 e => by omega) hbq
              refine ⟨g5, _, _, _, _, _, ⟨h'.tn, h'.cf, h'.c10, h'.c11, h'.c12, h'.c13, fun c hc => ?_, h'.bk⟩⟩
              rw [h'.cnt c hc, Pt.counts_happens _ 5 i f (by omega) (by omega) c]
              show Value.int .i64 ((if c = 5 then q.counts 5 + 1 else q.counts c : Nat) : Int) = .int .i64 ((if c = 5 then q.counts 5 + 1 else if c = 6 then q.counts 6 + 0 else q.counts c : Nat) : Int)
              by_cases e3 : c = 5
              · rw [if_pos e3, if_pos e3]
              · rw [if_neg e3, if_neg e3]
                by_cases e6 : c = 6
                · rw [if_pos e6, e6]; rfl
                · rw [if_neg e6]
            · rw [hEq]; exact hS6.fr k0' (by omega)
            · rw [hEq]; intro e; simp at e
            · exact ((hF6.setNew _ _ _ hwle).setNew _ _ _ hwle).setNew _ _ _ hwle
            · unfold Pt.flushAt; simp
            · exact Box.three _ _ _ hB6.tag (by simp [World.setCell]; omega) (by go_simp) (by go_simp) (by go_simp) (fun i => by go_simp)
            · have h1 := hdq.2.1 e
              rw [hqbk] at h1
              have h1' : rest = f6 :: k6.q := h1
              rw [hy, h1']; simp
            · have h1 := hdq.2.2 e
              rw [hqbk] at h1
              have h1' : rest = [] := h1.1
              exact ⟨by rw [hy, h1'], h1.2⟩
          have HK : Bx ((if fd6 = true then k6.q.length + 1 else 0) < gk) := ⟨by
            cases hfd6 : fd6 with
            | true =>
              have h1 := hdq.2.1 hfd6
              rw [hqbk] at h1
              have h1' : rest = f6 :: k6.q := h1
              rw [hgk, h1']; simp
            | false => rw [hgk]; simp⟩
          clear hP6 hk6 ho6 hf6 hA6 hF6 hS6 hB6 HDR H5
          simp only [Fm.val]
          go_wp2_with fail
          go_roundg (if fd6 = true then k6.q.length + 1 else 0)
          case rel => exact ⟨own5, v5, gone ++ [f], k6.q, f6, fd6, hv5.symm, rfl, HR.out, rfl⟩
          case measure => exact HK.out
    · obtain rfl : i = p.c.buckets := by omega
      have HF : Bx (EvPost own w wr T te a [] p p.flush u3) := ⟨⟨own1, flushEv p.now p.bk p.c.buckets, V.done, V.pt, by simpa using V.sl, by simpa using V.nil, V.fr⟩⟩
      clear V
      go_wp2_with fail
      go_ret
      exact ⟨u3, rfl, HF.out⟩

end Go.Proofs.Ytnkicbopebgppaa

namespace Go.Proofs.Ytnkicbopebgppaa
open Go.RowKit Fl

theorem infoBucket : (Try.prog.info? 95).map (fun i => (i.zero, i.size, i.bytes)) = some (some (.agg #[.slice none 0 0, .int .i64 0, .bool false, .int .i64 0, .bool false, .int .i64 0, .int .i64 0, .int .i64 0]), 8, 80) := by kernel_rfl

theorem setCell_size (w : World) (b i : Nat) (v : Value) : (w.setCell ⟨b, i, none⟩ v).heap.size = w.heap.size := by simp [World.setCell]

theorem _root_.Fl.Row.setCells {own : Nat → Nat} {t b ty n : Nat} : ∀ (l : List Value) (o : Nat) (w : World) (f : Nat → Value), Row own w t b ty n f → ∃ f', Row own (w.setCells b o l) t b ty n f' ∧ (∀ j, (j < o ∨ o + l.length ≤ j) → f' j = f j) ∧ (∀ i v, l[i]? = some v → f' (o + i) = v) := by
  intro l
  induction l with
  | nil => intro o w f h; exact ⟨f, h, fun _ _ => rfl, fun i v hi => by simp at hi⟩
  | cons v r ih =>
    intro o w f h
    obtain ⟨f', h1, h2, h3⟩ := ih (o + 1) _ _ (h.set o v)
    refine ⟨f', h1, fun j hj => ?_, fun i u hi => ?_⟩
    · rw [List.length_cons] at hj
      rw [h2 j (by omega), if_neg (by omega)]
    · cases i with
      | zero =>
        simp at hi
        rw [Nat.add_zero, h2 o (by omega), if_pos rfl, hi]
      | succ i =>
        rw [show o + (i + 1) = (o + 1) + i by omega]
        exact h3 i u (by simpa using hi)

theorem _root_.Fl.Fr.setCells {T : Nat → Prop} {own own' : Nat → Nat} {w : World} {b : Nat} (hb : T (own' b)) : ∀ (l : List Value) (o : Nat) (w' : World), Fr T own own' w w' → Fr T own own' w (w'.setCells b o l) := by
  intro l
  induction l with
  | nil => intro o w' h; exact h
  | cons v r ih => intro o w' h; exact ih (o + 1) _ (h.setCell b o v hb)

/-- New buckets' cells. -/
def bkZ : Nat → Value := fun j => bkF (.slice none 0 0) newBk (j % 8)

theorem rowIs_made8 (w : World) (n : Nat) (t : TypeId) : (w.alloc (.cells (madeCells #[.slice none 0 0, .int .i64 0, .bool false, .int .i64 0, .bool false, .int .i64 0, .int .i64 0, .int .i64 0] (n * 8)) t)).rowIs w.heap.size t (n * 8) bkZ := by
  have h := World.rowIs_alloc w (madeCells #[.slice none 0 0, .int .i64 0, .bool false, .int .i64 0, .bool false, .int .i64 0, .int .i64 0, .int .i64 0] (n * 8)) t bkZ (fun i hi => by
    rw [size_madeCells] at hi
    have hm : i % 8 < 8 := Nat.mod_lt _ (by omega)
    simp only [madeCells, Array.getElem?_map, Array.getElem?_range, hi, if_true, Option.map_some]
    unfold bkZ
    show some (#[.slice none 0 0, .int .i64 0, .bool false, .int .i64 0, .bool false, .int .i64 0, .int .i64 0, .int .i64 0][i % 8]!) = some (bkF (.slice none 0 0) newBk (i % 8))
    match i % 8, hm with
    | 0, _ => rfl
    | 1, _ => rfl
    | 2, _ => rfl
    | 3, _ => rfl
    | 4, _ => rfl
    | 5, _ => rfl
    | 6, _ => rfl
    | 7, _ => rfl)
  rw [size_madeCells] at h
  exact h

theorem make_buckets (n : Nat) (hn : n ≤ 16) (w : World) : (Instr.makeSlice 56 (.int .i64 (n : Int)) (.int .i64 (n : Int))).run Try.prog w = .ok (.slice (some ⟨w.heap.size, 0, none⟩) n n) (w.alloc (Obj.cells (madeCells #[.slice none 0 0, .int .i64 0, .bool false, .int .i64 0, .bool false, .int .i64 0, .int .i64 0, .int .i64 0] (n * 8)) 95)) := by
  obtain ⟨i0, hi, hz0, hz1, hz2⟩ := info_parts infoBucket
  have h := run_makeSlice (P := Try.prog) (w := w) 56 95 i0 _ Try.underlying56 hi hz0 .i64 .i64 (n : Int) (n : Int) (by omega) (by omega) (by rw [hz1]; simp; omega) (by rw [hz2]; omega) (by omega)
  rw [hz1] at h
  simpa [Value.cells] using h

/-- New buckets. -/
theorem newBk_at (own : Nat → Nat) (w : World) (T g n i : Nat) (hr : Row own w (T + 1) g 95 (n * 8) bkZ) (hi : i < n) : BkAt own w (T + 1) (T + 4 + i) g 95 (n * 8) (i * 8) bkZ (.slice none 0 0) newBk := by
  refine ⟨hr, by omega, fun x hx => ?_, Sl.nil _ _ _ _ _, by omega, by simp [newBk], fun x hx => by simp [newBk] at hx⟩
  unfold bkZ
  rw [show (i * 8 + x) % 8 = x by omega]

set_option maxRecDepth 100000 in
set_option maxHeartbeats 12800000 in
theorem prenew_any (own : Nat → Nat) (T a : Nat) (p : Pt) (c : Cf) (w : World) (h : PtAt own w T a p) (hc : c.ok) :
    Calls Try.prog 38 #[.pointer (some ⟨a, 0, none⟩), c.val] w fun e w' => e = .returned (.tuple #[]) ∧ ∃ own', PtAt own' w' T a (p.renew c) ∧ Fr (fun t => t = T) own own' w w' := by
  obtain ⟨g, fP, vF, vO, fB, vq, h⟩ := h
  have hcell := fun i hi => h.cell i hi
  have hz := h.frozen
  have hlt := h.lt
  have n1 : ¬ w.heap.size = a := by omega
  have n2 : ¬ w.heap.size + 1 = a := by omega
  have hb16 := hc.b2
  have H : Bx _ := ⟨h⟩
  have hmk := make_buckets c.buckets hb16
  clear h
  simp only [Cf.val]
  go_enter Try.func38, Try.ntmps38
  go_upto_region 3 with fail
  have hF0 : Fr (fun t => t = T) own own w (((((((((((w.setCell ⟨a, 0, none⟩ (.int .i64 c.buckets)).setCell ⟨a, 1, none⟩ (.int .i64 c.quantum)).setCell ⟨a, 2, none⟩ (.int .i64 c.packets)).setCell ⟨a, 3, none⟩ (.int .i64 c.memory)).setCell ⟨a, 4, none⟩ (.int .i64 c.length)).setCell ⟨a, 5, none⟩ (.int .i64 c.target)).setCell ⟨a, 6, none⟩ (.int .i64 c.interval)).setCell ⟨a, 7, none⟩ (.int .i64 c.tau)).setCell ⟨a, 8, none⟩ (.bool c.ecn)).setCell ⟨a, 9, none⟩ (.string c.key)).setCell ⟨a, 13, none⟩ (.slice (some ⟨w.heap.size + 1, 0, none⟩) c.buckets c.buckets)) := ((((((((((((Fr.refl (fun t => t = T) own w).setCell a 0 (.int .i64 c.buckets) H.out.tn.row.tag).setCell a 1 (.int .i64 c.quantum) H.out.tn.row.tag).setCell a 2 (.int .i64 c.packets) H.out.tn.row.tag).setCell a 3 (.int .i64 c.memory) H.out.tn.row.tag).setCell a 4 (.int .i64 c.length) H.out.tn.row.tag).setCell a 5 (.int .i64 c.target) H.out.tn.row.tag).setCell a 6 (.int .i64 c.interval) H.out.tn.row.tag).setCell a 7 (.int .i64 c.tau) H.out.tn.row.tag).setCell a 8 (.bool c.ecn) H.out.tn.row.tag).setCell a 9 (.string c.key) H.out.tn.row.tag).setCell a 13 (.slice (some ⟨w.heap.size + 1, 0, none⟩) c.buckets c.buckets) H.out.tn.row.tag)
  have hR0 := (((((((((((H.out.tn.row.set 0 (.int .i64 c.buckets)).set 1 (.int .i64 c.quantum)).set 2 (.int .i64 c.packets)).set 3 (.int .i64 c.memory)).set 4 (.int .i64 c.length)).set 5 (.int .i64 c.target)).set 6 (.int .i64 c.interval)).set 7 (.int .i64 c.tau)).set 8 (.bool c.ecn)).set 9 (.string c.key)).set 13 (.slice (some ⟨w.heap.size + 1, 0, none⟩) c.buckets c.buckets))
  have hs0 : (((((((((((w.setCell ⟨a, 0, none⟩ (.int .i64 c.buckets)).setCell ⟨a, 1, none⟩ (.int .i64 c.quantum)).setCell ⟨a, 2, none⟩ (.int .i64 c.packets)).setCell ⟨a, 3, none⟩ (.int .i64 c.memory)).setCell ⟨a, 4, none⟩ (.int .i64 c.length)).setCell ⟨a, 5, none⟩ (.int .i64 c.target)).setCell ⟨a, 6, none⟩ (.int .i64 c.interval)).setCell ⟨a, 7, none⟩ (.int .i64 c.tau)).setCell ⟨a, 8, none⟩ (.bool c.ecn)).setCell ⟨a, 9, none⟩ (.string c.key)).setCell ⟨a, 13, none⟩ (.slice (some ⟨w.heap.size + 1, 0, none⟩) c.buckets c.buckets)).heap.size = w.heap.size := by simp only [setCell_size]
  have hF1 := hF0.alloc (Obj.cells #[.int .i64 c.buckets, .int .i64 c.quantum, .int .i64 c.packets, .int .i64 c.memory, .int .i64 c.length, .int .i64 c.target, .int .i64 c.interval, .int .i64 c.tau, .bool c.ecn, .string c.key] 29)
  have hs1 : ((((((((((((w.setCell ⟨a, 0, none⟩ (.int .i64 c.buckets)).setCell ⟨a, 1, none⟩ (.int .i64 c.quantum)).setCell ⟨a, 2, none⟩ (.int .i64 c.packets)).setCell ⟨a, 3, none⟩ (.int .i64 c.memory)).setCell ⟨a, 4, none⟩ (.int .i64 c.length)).setCell ⟨a, 5, none⟩ (.int .i64 c.target)).setCell ⟨a, 6, none⟩ (.int .i64 c.interval)).setCell ⟨a, 7, none⟩ (.int .i64 c.tau)).setCell ⟨a, 8, none⟩ (.bool c.ecn)).setCell ⟨a, 9, none⟩ (.string c.key)).setCell ⟨a, 13, none⟩ (.slice (some ⟨w.heap.size + 1, 0, none⟩) c.buckets c.buckets)).alloc (Obj.cells #[.int .i64 c.buckets, .int .i64 c.quantum, .int .i64 c.packets, .int .i64 c.memory, .int .i64 c.length, .int .i64 c.target, .int .i64 c.interval, .int .i64 c.tau, .bool c.ecn, .string c.key] 29)).heap.size = w.heap.size + 1 := by rw [World.size_alloc, hs0]
  have hT := Fr.allocTag (fun _ => False) own ((((((((((((w.setCell ⟨a, 0, none⟩ (.int .i64 c.buckets)).setCell ⟨a, 1, none⟩ (.int .i64 c.quantum)).setCell ⟨a, 2, none⟩ (.int .i64 c.packets)).setCell ⟨a, 3, none⟩ (.int .i64 c.memory)).setCell ⟨a, 4, none⟩ (.int .i64 c.length)).setCell ⟨a, 5, none⟩ (.int .i64 c.target)).setCell ⟨a, 6, none⟩ (.int .i64 c.interval)).setCell ⟨a, 7, none⟩ (.int .i64 c.tau)).setCell ⟨a, 8, none⟩ (.bool c.ecn)).setCell ⟨a, 9, none⟩ (.string c.key)).setCell ⟨a, 13, none⟩ (.slice (some ⟨w.heap.size + 1, 0, none⟩) c.buckets c.buckets)).alloc (Obj.cells #[.int .i64 c.buckets, .int .i64 c.quantum, .int .i64 c.packets, .int .i64 c.memory, .int .i64 c.length, .int .i64 c.target, .int .i64 c.interval, .int .i64 c.tau, .bool c.ecn, .string c.key] 29)) (Obj.cells (madeCells #[.slice none 0 0, .int .i64 0, .bool false, .int .i64 0, .bool false, .int .i64 0, .int .i64 0, .int .i64 0] (c.buckets * 8)) 95) (T + 1)
  have hrow : Row (upd own ((((((((((((w.setCell ⟨a, 0, none⟩ (.int .i64 c.buckets)).setCell ⟨a, 1, none⟩ (.int .i64 c.quantum)).setCell ⟨a, 2, none⟩ (.int .i64 c.packets)).setCell ⟨a, 3, none⟩ (.int .i64 c.memory)).setCell ⟨a, 4, none⟩ (.int .i64 c.length)).setCell ⟨a, 5, none⟩ (.int .i64 c.target)).setCell ⟨a, 6, none⟩ (.int .i64 c.interval)).setCell ⟨a, 7, none⟩ (.int .i64 c.tau)).setCell ⟨a, 8, none⟩ (.bool c.ecn)).setCell ⟨a, 9, none⟩ (.string c.key)).setCell ⟨a, 13, none⟩ (.slice (some ⟨w.heap.size + 1, 0, none⟩) c.buckets c.buckets)).alloc (Obj.cells #[.int .i64 c.buckets, .int .i64 c.quantum, .int .i64 c.packets, .int .i64 c.memory, .int .i64 c.length, .int .i64 c.target, .int .i64 c.interval, .int .i64 c.tau, .bool c.ecn, .string c.key] 29)).heap.size (T + 1)) (((((((((((((w.setCell ⟨a, 0, none⟩ (.int .i64 c.buckets)).setCell ⟨a, 1, none⟩ (.int .i64 c.quantum)).setCell ⟨a, 2, none⟩ (.int .i64 c.packets)).setCell ⟨a, 3, none⟩ (.int .i64 c.memory)).setCell ⟨a, 4, none⟩ (.int .i64 c.length)).setCell ⟨a, 5, none⟩ (.int .i64 c.target)).setCell ⟨a, 6, none⟩ (.int .i64 c.interval)).setCell ⟨a, 7, none⟩ (.int .i64 c.tau)).setCell ⟨a, 8, none⟩ (.bool c.ecn)).setCell ⟨a, 9, none⟩ (.string c.key)).setCell ⟨a, 13, none⟩ (.slice (some ⟨w.heap.size + 1, 0, none⟩) c.buckets c.buckets)).alloc (Obj.cells #[.int .i64 c.buckets, .int .i64 c.quantum, .int .i64 c.packets, .int .i64 c.memory, .int .i64 c.length, .int .i64 c.target, .int .i64 c.interval, .int .i64 c.tau, .bool c.ecn, .string c.key] 29)).alloc (Obj.cells (madeCells #[.slice none 0 0, .int .i64 0, .bool false, .int .i64 0, .bool false, .int .i64 0, .int .i64 0, .int .i64 0] (c.buckets * 8)) 95)) (T + 1) ((((((((((((w.setCell ⟨a, 0, none⟩ (.int .i64 c.buckets)).setCell ⟨a, 1, none⟩ (.int .i64 c.quantum)).setCell ⟨a, 2, none⟩ (.int .i64 c.packets)).setCell ⟨a, 3, none⟩ (.int .i64 c.memory)).setCell ⟨a, 4, none⟩ (.int .i64 c.length)).setCell ⟨a, 5, none⟩ (.int .i64 c.target)).setCell ⟨a, 6, none⟩ (.int .i64 c.interval)).setCell ⟨a, 7, none⟩ (.int .i64 c.tau)).setCell ⟨a, 8, none⟩ (.bool c.ecn)).setCell ⟨a, 9, none⟩ (.string c.key)).setCell ⟨a, 13, none⟩ (.slice (some ⟨w.heap.size + 1, 0, none⟩) c.buckets c.buckets)).alloc (Obj.cells #[.int .i64 c.buckets, .int .i64 c.quantum, .int .i64 c.packets, .int .i64 c.memory, .int .i64 c.length, .int .i64 c.target, .int .i64 c.interval, .int .i64 c.tau, .bool c.ecn, .string c.key] 29)).heap.size 95 (c.buckets * 8) bkZ := ⟨upd_same _ _ _, rowIs_made8 _ _ _⟩
  have hR1 := (hR0.below ((Below.refl _ _).alloc (Nat.le_refl _) (Obj.cells #[.int .i64 c.buckets, .int .i64 c.quantum, .int .i64 c.packets, .int .i64 c.memory, .int .i64 c.length, .int .i64 c.target, .int .i64 c.interval, .int .i64 c.tau, .bool c.ecn, .string c.key] 29))).fr hT id
  rw [hs1] at hrow hT hR1
  have hF2 : Fr (fun t => t = T) own (upd own (w.heap.size + 1) (T + 1)) w (((((((((((((w.setCell ⟨a, 0, none⟩ (.int .i64 c.buckets)).setCell ⟨a, 1, none⟩ (.int .i64 c.quantum)).setCell ⟨a, 2, none⟩ (.int .i64 c.packets)).setCell ⟨a, 3, none⟩ (.int .i64 c.memory)).setCell ⟨a, 4, none⟩ (.int .i64 c.length)).setCell ⟨a, 5, none⟩ (.int .i64 c.target)).setCell ⟨a, 6, none⟩ (.int .i64 c.interval)).setCell ⟨a, 7, none⟩ (.int .i64 c.tau)).setCell ⟨a, 8, none⟩ (.bool c.ecn)).setCell ⟨a, 9, none⟩ (.string c.key)).setCell ⟨a, 13, none⟩ (.slice (some ⟨w.heap.size + 1, 0, none⟩) c.buckets c.buckets)).alloc (Obj.cells #[.int .i64 c.buckets, .int .i64 c.quantum, .int .i64 c.packets, .int .i64 c.memory, .int .i64 c.length, .int .i64 c.target, .int .i64 c.interval, .int .i64 c.tau, .bool c.ecn, .string c.key] 29)).alloc (Obj.cells (madeCells #[.slice none 0 0, .int .i64 0, .bool false, .int .i64 0, .bool false, .int .i64 0, .int .i64 0, .int .i64 0] (c.buckets * 8)) 95)) := hF1.trans (hT.mono (fun _ e => e.elim))
  have e0 : ∀ j, j < 55 → ∃ u, (((((((((((((w.setCell ⟨a, 0, none⟩ (.int .i64 c.buckets)).setCell ⟨a, 1, none⟩ (.int .i64 c.quantum)).setCell ⟨a, 2, none⟩ (.int .i64 c.packets)).setCell ⟨a, 3, none⟩ (.int .i64 c.memory)).setCell ⟨a, 4, none⟩ (.int .i64 c.length)).setCell ⟨a, 5, none⟩ (.int .i64 c.target)).setCell ⟨a, 6, none⟩ (.int .i64 c.interval)).setCell ⟨a, 7, none⟩ (.int .i64 c.tau)).setCell ⟨a, 8, none⟩ (.bool c.ecn)).setCell ⟨a, 9, none⟩ (.string c.key)).setCell ⟨a, 13, none⟩ (.slice (some ⟨w.heap.size + 1, 0, none⟩) c.buckets c.buckets)).alloc (Obj.cells #[.int .i64 c.buckets, .int .i64 c.quantum, .int .i64 c.packets, .int .i64 c.memory, .int .i64 c.length, .int .i64 c.target, .int .i64 c.interval, .int .i64 c.tau, .bool c.ecn, .string c.key] 29)).alloc (Obj.cells (madeCells #[.slice none 0 0, .int .i64 0, .bool false, .int .i64 0, .bool false, .int .i64 0, .int .i64 0, .int .i64 0] (c.buckets * 8)) 95)).cell? ⟨a, j, none⟩ = some u := fun j hj => ⟨_, hR1.row.cell hj⟩
  have ez := hR1.row.frozen
  generalize hf1 : (fun j => if j = 13 then _ else _ : Nat → Value) = f1 at hR1
  have HR1 : Bx _ := ⟨hR1⟩
  have HRow : Bx _ := ⟨hrow⟩
  have HF2 : Bx _ := ⟨hF2⟩
  clear hF0 hR0 hF1 hT hrow hR1 hF2 hcell hz hs1 hs0
  generalize (((((((((((((w.setCell ⟨a, 0, none⟩ (.int .i64 c.buckets)).setCell ⟨a, 1, none⟩ (.int .i64 c.quantum)).setCell ⟨a, 2, none⟩ (.int .i64 c.packets)).setCell ⟨a, 3, none⟩ (.int .i64 c.memory)).setCell ⟨a, 4, none⟩ (.int .i64 c.length)).setCell ⟨a, 5, none⟩ (.int .i64 c.target)).setCell ⟨a, 6, none⟩ (.int .i64 c.interval)).setCell ⟨a, 7, none⟩ (.int .i64 c.tau)).setCell ⟨a, 8, none⟩ (.bool c.ecn)).setCell ⟨a, 9, none⟩ (.string c.key)).setCell ⟨a, 13, none⟩ (.slice (some ⟨w.heap.size + 1, 0, none⟩) c.buckets c.buckets)).alloc (Obj.cells #[.int .i64 c.buckets, .int .i64 c.quantum, .int .i64 c.packets, .int .i64 c.memory, .int .i64 c.length, .int .i64 c.target, .int .i64 c.interval, .int .i64 c.tau, .bool c.ecn, .string c.key] 29)).alloc (Obj.cells (madeCells #[.slice none 0 0, .int .i64 0, .bool false, .int .i64 0, .bool false, .int .i64 0, .int .i64 0, .int .i64 0] (c.buckets * 8)) 95)) = w1 at *
  have hth : w1.there a 14 34 := fun j hj => ⟨by obtain ⟨u, hu⟩ := e0 (14 + j) (by omega); rw [hu]; rfl, ez (14 + j)⟩
  have hinf : (Try.prog.info? 60).map (·.size) = some 34 := by kernel_rfl
  have hone : (#[.slice none 0 0, .slice none 0 0, .bool false, .bool false, .bool false, .bool false, .bool false, .bool false, .bool false, .bool false, .bool false, .bool false, .bool false, .bool false, .bool false, .bool false, .bool false, .bool false, .int .i64 0, .int .i64 0, .int .i64 0, .int .i64 0, .int .i64 0, .int .i64 0, .int .i64 0, .int .i64 0, .int .i64 0, .int .i64 0, .int .i64 0, .int .i64 0, .int .i64 0, .int .i64 0, .int .i64 0, .int .i64 0] : Array Value).all (·.oneCell') = true := all_oneCell_toArray (cs := [.slice none 0 0, .slice none 0 0, .bool false, .bool false, .bool false, .bool false, .bool false, .bool false, .bool false, .bool false, .bool false, .bool false, .bool false, .bool false, .bool false, .bool false, .bool false, .bool false, .int .i64 0, .int .i64 0, .int .i64 0, .int .i64 0, .int .i64 0, .int .i64 0, .int .i64 0, .int .i64 0, .int .i64 0, .int .i64 0, .int .i64 0, .int .i64 0, .int .i64 0, .int .i64 0, .int .i64 0, .int .i64 0]) (by
    intro v hv
    have hv2 : v = .slice none 0 0 ∨ v = .bool false ∨ v = .int .i64 0 := by simpa using hv
    rcases hv2 with rfl | rfl | rfl <;> rfl)
  have HTH : Bx _ := ⟨hth⟩
  clear hth e0 ez
  go_wp2_with (refine wpList_store_mid rfl 60 _ _ rfl a 14 #[.slice none 0 0, .slice none 0 0, .bool false, .bool false, .bool false, .bool false, .bool false, .bool false, .bool false, .bool false, .bool false, .bool false, .bool false, .bool false, .bool false, .bool false, .bool false, .bool false, .int .i64 0, .int .i64 0, .int .i64 0, .int .i64 0, .int .i64 0, .int .i64 0, .int .i64 0, .int .i64 0, .int .i64 0, .int .i64 0, .int .i64 0, .int .i64 0, .int .i64 0, .int .i64 0, .int .i64 0, .int .i64 0] rfl rfl HTH.out hinf hone ?_)
  go_end0
  obtain ⟨f2, hR2, ho2, hi2⟩ := Fl.Row.setCells (#[.slice none 0 0, .slice none 0 0, .bool false, .bool false, .bool false, .bool false, .bool false, .bool false, .bool false, .bool false, .bool false, .bool false, .bool false, .bool false, .bool false, .bool false, .bool false, .bool false, .int .i64 0, .int .i64 0, .int .i64 0, .int .i64 0, .int .i64 0, .int .i64 0, .int .i64 0, .int .i64 0, .int .i64 0, .int .i64 0, .int .i64 0, .int .i64 0, .int .i64 0, .int .i64 0, .int .i64 0, .int .i64 0].toList) 14 w1 f1 HR1.out
  have hF3 := Fl.Fr.setCells (b := a) (T := fun t => t = T) (own := own) (w := w) HR1.out.tag (#[.slice none 0 0, .slice none 0 0, .bool false, .bool false, .bool false, .bool false, .bool false, .bool false, .bool false, .bool false, .bool false, .bool false, .bool false, .bool false, .bool false, .bool false, .bool false, .bool false, .int .i64 0, .int .i64 0, .int .i64 0, .int .i64 0, .int .i64 0, .int .i64 0, .int .i64 0, .int .i64 0, .int .i64 0, .int .i64 0, .int .i64 0, .int .i64 0, .int .i64 0, .int .i64 0, .int .i64 0, .int .i64 0].toList) 14 w1 HF2.out
  have hrow3 := HRow.out.fr (Fl.Fr.setCells (b := a) (T := fun t => t = T) HR1.out.tag (#[.slice none 0 0, .slice none 0 0, .bool false, .bool false, .bool false, .bool false, .bool false, .bool false, .bool false, .bool false, .bool false, .bool false, .bool false, .bool false, .bool false, .bool false, .bool false, .bool false, .int .i64 0, .int .i64 0, .int .i64 0, .int .i64 0, .int .i64 0, .int .i64 0, .int .i64 0, .int .i64 0, .int .i64 0, .int .i64 0, .int .i64 0, .int .i64 0, .int .i64 0, .int .i64 0, .int .i64 0, .int .i64 0].toList) 14 w1 (Fr.refl _ _ _)) (by omega)
  have q14 : f2 14 = .slice none 0 0 := hi2 0 _ rfl
  have q15 : f2 15 = .slice none 0 0 := hi2 1 _ rfl
  have hlo : ∀ j, j < 14 → f2 j = f1 j := fun j hj => ho2 j (.inl hj)
  have hhi : ∀ j, 48 ≤ j → f2 j = f1 j := fun j hj => ho2 j (.inr (by simpa using hj))
  refine ⟨rfl, _, ⟨w.heap.size + 1, f2, .slice none 0 0, .slice none 0 0, bkZ, fun _ => .slice none 0 0, ⟨⟨hR2, by omega, q14, q15, ?_, ?_, Sl.nil _ _ _ _ _, Sl.nil _ _ _ _ _, by omega, by omega, by omega, by simp [Pt.renew, newTn], by simp [Pt.renew, newTn], by simp [Pt.renew, newTn], by simp [Pt.renew, newTn]⟩, ?_, ?_, ?_, ?_, ?_, ?_, fun i hi => newBk_at _ _ _ _ _ _ hrow3 hi⟩⟩, hF3⟩
  · intro i hi
    match i, hi with | 0, _ => exact hi2 2 _ rfl | 1, _ => exact hi2 3 _ rfl | 2, _ => exact hi2 4 _ rfl | 3, _ => exact hi2 5 _ rfl | 4, _ => exact hi2 6 _ rfl | 5, _ => exact hi2 7 _ rfl | 6, _ => exact hi2 8 _ rfl | 7, _ => exact hi2 9 _ rfl | 8, _ => exact hi2 10 _ rfl | 9, _ => exact hi2 11 _ rfl | 10, _ => exact hi2 12 _ rfl | 11, _ => exact hi2 13 _ rfl | 12, _ => exact hi2 14 _ rfl | 13, _ => exact hi2 15 _ rfl | 14, _ => exact hi2 16 _ rfl | 15, _ => exact hi2 17 _ rfl | n + 16, hi => exact absurd hi (by omega)
  · intro i hi
    match i, hi with | 0, _ => exact hi2 18 _ rfl | 1, _ => exact hi2 19 _ rfl | 2, _ => exact hi2 20 _ rfl | 3, _ => exact hi2 21 _ rfl | 4, _ => exact hi2 22 _ rfl | 5, _ => exact hi2 23 _ rfl | 6, _ => exact hi2 24 _ rfl | 7, _ => exact hi2 25 _ rfl | 8, _ => exact hi2 26 _ rfl | 9, _ => exact hi2 27 _ rfl | 10, _ => exact hi2 28 _ rfl | 11, _ => exact hi2 29 _ rfl | 12, _ => exact hi2 30 _ rfl | 13, _ => exact hi2 31 _ rfl | 14, _ => exact hi2 32 _ rfl | 15, _ => exact hi2 33 _ rfl | n + 16, hi => exact absurd hi (by omega)
  · intro i hi
    rw [hlo i (by omega), ← hf1]
    match i, hi with | 0, _ => rfl | 1, _ => rfl | 2, _ => rfl | 3, _ => rfl | 4, _ => rfl | 5, _ => rfl | 6, _ => rfl | 7, _ => rfl | 8, _ => rfl | 9, _ => rfl
  · rw [hlo 10 (by omega), ← hf1]; exact H.out.c10
  · rw [hlo 11 (by omega), ← hf1]; exact H.out.c11
  · rw [hlo 12 (by omega), ← hf1]; exact H.out.c12
  · rw [hlo 13 (by omega), ← hf1]; rfl
  · intro i hi
    rw [hhi (48 + i) (by omega), ← hf1]
    match i, hi with | 0, _ => exact H.out.cnt 0 (by omega) | 1, _ => exact H.out.cnt 1 (by omega) | 2, _ => exact H.out.cnt 2 (by omega) | 3, _ => exact H.out.cnt 3 (by omega) | 4, _ => exact H.out.cnt 4 (by omega) | 5, _ => exact H.out.cnt 5 (by omega) | 6, _ => exact H.out.cnt 6 (by omega)

end Go.Proofs.Ytnkicbopebgppaa

namespace Go.Proofs.Ytnkicbopebgppaa
open Go.RowKit Fl

set_option maxRecDepth 100000 in
set_option maxHeartbeats 3200000 in
theorem padopt_any (own : Nat → Nat) (T a : Nat) (p : Pt) (c : Cf) (w : World) (h : PtAt own w T a p) (hj : Junk own w) (hT : 100 ≤ T) (hb16 : p.c.buckets ≤ 16) (hbk : c.buckets = p.c.buckets) :
    Calls Try.prog 35 #[.pointer (some ⟨a, 0, none⟩), c.val] w fun e w' => e = .returned (.tuple #[]) ∧ PtAt own w' T a { p with c := c, tn := p.tn.limitTo c.quantum 16 } ∧ Fr (fun t => t = T ∨ t = T + 2 ∨ t = T + 3) own own w w' := by
  obtain ⟨g, fP, vF, vO, fB, vq, h⟩ := h
  have hcell := fun i hi => h.cell i hi
  have hz := h.frozen
  have hlt := h.lt
  have n1 : ¬ w.heap.size = a := by omega
  have H : Bx _ := ⟨h⟩
  clear h
  simp only [Cf.val]
  go_enter Try.func35, Try.ntmps35
  have hF0 : Fr (fun t => t = T) own own w ((((((((((w.setCell ⟨a, 0, none⟩ (.int .i64 c.buckets)).setCell ⟨a, 1, none⟩ (.int .i64 c.quantum)).setCell ⟨a, 2, none⟩ (.int .i64 c.packets)).setCell ⟨a, 3, none⟩ (.int .i64 c.memory)).setCell ⟨a, 4, none⟩ (.int .i64 c.length)).setCell ⟨a, 5, none⟩ (.int .i64 c.target)).setCell ⟨a, 6, none⟩ (.int .i64 c.interval)).setCell ⟨a, 7, none⟩ (.int .i64 c.tau)).setCell ⟨a, 8, none⟩ (.bool c.ecn)).setCell ⟨a, 9, none⟩ (.string c.key)) := (((((((((((Fr.refl (fun t => t = T) own w).setCell a 0 (.int .i64 c.buckets) H.out.tn.row.tag).setCell a 1 (.int .i64 c.quantum) H.out.tn.row.tag).setCell a 2 (.int .i64 c.packets) H.out.tn.row.tag).setCell a 3 (.int .i64 c.memory) H.out.tn.row.tag).setCell a 4 (.int .i64 c.length) H.out.tn.row.tag).setCell a 5 (.int .i64 c.target) H.out.tn.row.tag).setCell a 6 (.int .i64 c.interval) H.out.tn.row.tag).setCell a 7 (.int .i64 c.tau) H.out.tn.row.tag).setCell a 8 (.bool c.ecn) H.out.tn.row.tag).setCell a 9 (.string c.key) H.out.tn.row.tag)
  obtain ⟨f1, Hf1, hR0⟩ : ∃ f1 : Nat → Value, Bx ((fun j => if j = 9 then (.string c.key : Value) else (fun j => if j = 8 then (.bool c.ecn : Value) else (fun j => if j = 7 then (.int .i64 c.tau : Value) else (fun j => if j = 6 then (.int .i64 c.interval : Value) else (fun j => if j = 5 then (.int .i64 c.target : Value) else (fun j => if j = 4 then (.int .i64 c.length : Value) else (fun j => if j = 3 then (.int .i64 c.memory : Value) else (fun j => if j = 2 then (.int .i64 c.packets : Value) else (fun j => if j = 1 then (.int .i64 c.quantum : Value) else (fun j => if j = 0 then (.int .i64 c.buckets : Value) else fP j) j) j) j) j) j) j) j) j) j) = f1) ∧ Row own ((((((((((w.setCell ⟨a, 0, none⟩ (.int .i64 c.buckets)).setCell ⟨a, 1, none⟩ (.int .i64 c.quantum)).setCell ⟨a, 2, none⟩ (.int .i64 c.packets)).setCell ⟨a, 3, none⟩ (.int .i64 c.memory)).setCell ⟨a, 4, none⟩ (.int .i64 c.length)).setCell ⟨a, 5, none⟩ (.int .i64 c.target)).setCell ⟨a, 6, none⟩ (.int .i64 c.interval)).setCell ⟨a, 7, none⟩ (.int .i64 c.tau)).setCell ⟨a, 8, none⟩ (.bool c.ecn)).setCell ⟨a, 9, none⟩ (.string c.key)) T a 63 55 f1 := ⟨_, ⟨rfl⟩, ((((((((((H.out.tn.row.set 0 (.int .i64 c.buckets)).set 1 (.int .i64 c.quantum)).set 2 (.int .i64 c.packets)).set 3 (.int .i64 c.memory)).set 4 (.int .i64 c.length)).set 5 (.int .i64 c.target)).set 6 (.int .i64 c.interval)).set 7 (.int .i64 c.tau)).set 8 (.bool c.ecn)).set 9 (.string c.key))⟩
  have hup : ∀ j, 10 ≤ j → f1 j = fP j := by
    intro j hj
    rw [← Hf1.out]
    simp only
    repeat rw [if_neg (by omega)]
  have hA : PtIs own (((((((((((w.setCell ⟨a, 0, none⟩ (.int .i64 c.buckets)).setCell ⟨a, 1, none⟩ (.int .i64 c.quantum)).setCell ⟨a, 2, none⟩ (.int .i64 c.packets)).setCell ⟨a, 3, none⟩ (.int .i64 c.memory)).setCell ⟨a, 4, none⟩ (.int .i64 c.length)).setCell ⟨a, 5, none⟩ (.int .i64 c.target)).setCell ⟨a, 6, none⟩ (.int .i64 c.interval)).setCell ⟨a, 7, none⟩ (.int .i64 c.tau)).setCell ⟨a, 8, none⟩ (.bool c.ecn)).setCell ⟨a, 9, none⟩ (.string c.key)).alloc (Obj.cells #[.int .i64 c.buckets, .int .i64 c.quantum, .int .i64 c.packets, .int .i64 c.memory, .int .i64 c.length, .int .i64 c.target, .int .i64 c.interval, .int .i64 c.tau, .bool c.ecn, .string c.key] 29)) T a g f1 vF vO fB vq p.counts { p with c := c } := by
    refine PtIs.below (w := ((((((((((w.setCell ⟨a, 0, none⟩ (.int .i64 c.buckets)).setCell ⟨a, 1, none⟩ (.int .i64 c.quantum)).setCell ⟨a, 2, none⟩ (.int .i64 c.packets)).setCell ⟨a, 3, none⟩ (.int .i64 c.memory)).setCell ⟨a, 4, none⟩ (.int .i64 c.length)).setCell ⟨a, 5, none⟩ (.int .i64 c.target)).setCell ⟨a, 6, none⟩ (.int .i64 c.interval)).setCell ⟨a, 7, none⟩ (.int .i64 c.tau)).setCell ⟨a, 8, none⟩ (.bool c.ecn)).setCell ⟨a, 9, none⟩ (.string c.key))) ?_ ((Below.refl _ _).alloc (Nat.le_refl _) _) (by show c.buckets ≤ 16; omega)
    have ht := H.out.tn
    refine ⟨⟨hR0, by omega, (hup _ (by omega)).trans ht.c0, (hup _ (by omega)).trans ht.c1, fun i hi => (hup _ (by omega)).trans (ht.li i hi), fun i hi => (hup _ (by omega)).trans (ht.de i hi), ht.slF.fr hF0 (by show ¬ (T + 2 = T); omega), ht.slO.fr hF0 (by show ¬ (T + 3 = T); omega), ht.n1, ht.n2, ht.n3, ht.bF, ht.bO, ht.lF, ht.lO⟩, fun i hi => ?_, (hup _ (by omega)).trans H.out.c10, (hup _ (by omega)).trans H.out.c11, (hup _ (by omega)).trans H.out.c12, (hup _ (by omega)).trans ?_, fun i hi => (hup _ (by omega)).trans (H.out.cnt i hi), fun i hi => ?_⟩
    · rw [← Hf1.out]
      match i, hi with | 0, _ => rfl | 1, _ => rfl | 2, _ => rfl | 3, _ => rfl | 4, _ => rfl | 5, _ => rfl | 6, _ => rfl | 7, _ => rfl | 8, _ => rfl | 9, _ => rfl
    · have h13 := H.out.c13
      rw [← hbk] at h13
      exact h13
    · have hi' : i < c.buckets := hi
      have hB := H.out.bk i (by omega)
      rw [← hbk] at hB
      exact hB.fr hF0 (by show ¬ (T + 1 = T); omega) (by show ¬ (T + 4 + i = T); omega)
  have HL : Bx _ := ⟨fun wx (hb : Below (((((((((((w.setCell ⟨a, 0, none⟩ (.int .i64 c.buckets)).setCell ⟨a, 1, none⟩ (.int .i64 c.quantum)).setCell ⟨a, 2, none⟩ (.int .i64 c.packets)).setCell ⟨a, 3, none⟩ (.int .i64 c.memory)).setCell ⟨a, 4, none⟩ (.int .i64 c.length)).setCell ⟨a, 5, none⟩ (.int .i64 c.target)).setCell ⟨a, 6, none⟩ (.int .i64 c.interval)).setCell ⟨a, 7, none⟩ (.int .i64 c.tau)).setCell ⟨a, 8, none⟩ (.bool c.ecn)).setCell ⟨a, 9, none⟩ (.string c.key)).alloc (Obj.cells #[.int .i64 c.buckets, .int .i64 c.quantum, .int .i64 c.packets, .int .i64 c.memory, .int .i64 c.length, .int .i64 c.target, .int .i64 c.interval, .int .i64 c.tau, .bool c.ecn, .string c.key] 29)).heap.size (((((((((((w.setCell ⟨a, 0, none⟩ (.int .i64 c.buckets)).setCell ⟨a, 1, none⟩ (.int .i64 c.quantum)).setCell ⟨a, 2, none⟩ (.int .i64 c.packets)).setCell ⟨a, 3, none⟩ (.int .i64 c.memory)).setCell ⟨a, 4, none⟩ (.int .i64 c.length)).setCell ⟨a, 5, none⟩ (.int .i64 c.target)).setCell ⟨a, 6, none⟩ (.int .i64 c.interval)).setCell ⟨a, 7, none⟩ (.int .i64 c.tau)).setCell ⟨a, 8, none⟩ (.bool c.ecn)).setCell ⟨a, 9, none⟩ (.string c.key)).alloc (Obj.cells #[.int .i64 c.buckets, .int .i64 c.quantum, .int .i64 c.packets, .int .i64 c.memory, .int .i64 c.length, .int .i64 c.target, .int .i64 c.interval, .int .i64 c.tau, .bool c.ecn, .string c.key] 29)) wx) => limit_any own T (T + 2) (T + 3) a 63 55 14 c.quantum f1 vF vO p.tn wx (hA.tn.below hb)⟩
  have HA : Bx _ := ⟨hA⟩
  have HF0 : Bx _ := ⟨hF0⟩
  have hcb : c.buckets ≤ 16 := by omega
  clear hA hF0 hR0 hbk
  have hT0 : ¬ (own w.heap.size = T ∨ own w.heap.size = T + 2 ∨ own w.heap.size = T + 3) := by rw [hj _ (Nat.le_refl _)]; omega
  go_wp2_with fail
  go_region_held3 (fun w' => w'.cell? ⟨w.heap.size, 1, none⟩ = some (.int .i64 c.quantum)) (first | go_simp | go_keep) ((go_at_call 51; refine (HL.out _ ?_).mono ?_; exact (Below.refl _ _).drew; rintro e w2 ⟨rfl, hP2⟩; obtain ⟨f2, vF2, vO2, h2, ho2, hf2⟩ := hP2.ex; have k1 : w2.cell? ⟨w.heap.size, 1, none⟩ = some (.int .i64 c.quantum) := (hf2.cell (b := w.heap.size) 1 (by simp) hT0).trans (by go_simp)))
  have hA2 := (HA.out.below ((Below.refl _ _).drew) hcb).turn h2 ho2 hf2
  have hFF := (((HF0.out.mono (T' := fun t => t = T ∨ t = T + 2 ∨ t = T + 3) (fun t e => .inl e)).alloc _).drew).trans hf2
  have HFin : Bx (PtAt own w2 T a { p with c := c, tn := p.tn.limitTo c.quantum 16 } ∧ Fr (fun t => t = T ∨ t = T + 2 ∨ t = T + 3) own own w w2) := ⟨⟨g, f2, vF2, vO2, fB, vq, hA2⟩, hFF⟩
  clear hP2 h2 ho2 hf2 hA2 hFF HA HF0 HL
  go_wp2_with fail
  go_end0
  exact ⟨rfl, HFin.out⟩

end Go.Proofs.Ytnkicbopebgppaa

namespace Go.Proofs.Ytnkicbopebgppaa
open Go.RowKit Fl

set_option maxRecDepth 100000 in
set_option maxHeartbeats 3200000 in
theorem pcountAnew_any (own : Nat → Nat) (T a : Nat) (cn : Nat → Nat) (p : Pt) (w : World) (h : PcAt own w T a cn p) :
    Calls Try.prog 41 #[.pointer (some ⟨a, 0, none⟩)] w fun e w' => e = .returned (.tuple #[]) ∧ HapPost own w w' T a (fun i => if i = 0 then cn 0 else 0) p := by
  obtain ⟨g, fP, vF, vO, fB, vq, h⟩ := h
  have c0 : w.cell? ⟨a, 48, none⟩ = some (.int .i64 (cn 0)) := (h.cell (48 + 0) (by omega)).trans (by rw [h.cnt 0 (by omega)])
  have c1 : w.cell? ⟨a, 49, none⟩ = some (.int .i64 (cn 1)) := (h.cell (48 + 1) (by omega)).trans (by rw [h.cnt 1 (by omega)])
  have c2 : w.cell? ⟨a, 50, none⟩ = some (.int .i64 (cn 2)) := (h.cell (48 + 2) (by omega)).trans (by rw [h.cnt 2 (by omega)])
  have c3 : w.cell? ⟨a, 51, none⟩ = some (.int .i64 (cn 3)) := (h.cell (48 + 3) (by omega)).trans (by rw [h.cnt 3 (by omega)])
  have c4 : w.cell? ⟨a, 52, none⟩ = some (.int .i64 (cn 4)) := (h.cell (48 + 4) (by omega)).trans (by rw [h.cnt 4 (by omega)])
  have c5 : w.cell? ⟨a, 53, none⟩ = some (.int .i64 (cn 5)) := (h.cell (48 + 5) (by omega)).trans (by rw [h.cnt 5 (by omega)])
  have c6 : w.cell? ⟨a, 54, none⟩ = some (.int .i64 (cn 6)) := (h.cell (48 + 6) (by omega)).trans (by rw [h.cnt 6 (by omega)])
  have hz := h.frozen
  have hlt := h.lt
  have H : Bx _ := ⟨h⟩
  clear h
  go_enter Try.func41, Try.ntmps41
  go_wp2_with fail
  go_end0
  have h1 := H.out.count 0 0 (by omega) 0 rfl
  have h2 := h1.count 1 0 (by omega) 0 rfl
  have h3 := h2.count 2 0 (by omega) 0 rfl
  have h4 := h3.count 3 0 (by omega) 0 rfl
  have h5 := h4.count 4 0 (by omega) 0 rfl
  have h6 := h5.count 5 0 (by omega) 0 rfl
  have h7 := h6.count 6 0 (by omega) 0 rfl
  have h8 := h7.count 0 (cn 0) (by omega) (cn 0) rfl
  refine ⟨rfl, ⟨⟨g, _, vF, vO, fB, vq, ⟨h8.tn, h8.cf, h8.c10, h8.c11, h8.c12, h8.c13, fun i hi => (h8.cnt i hi).trans ?_, h8.bk⟩⟩, ?_⟩⟩
  · match i, hi with | 0, _ => rfl | 1, _ => rfl | 2, _ => rfl | 3, _ => rfl | 4, _ => rfl | 5, _ => rfl | 6, _ => rfl
  · exact ((((((((Fr.refl _ own w).setCell a _ _ H.out.tn.row.tag).setCell a _ _ H.out.tn.row.tag).setCell a _ _ H.out.tn.row.tag).setCell a _ _ H.out.tn.row.tag).setCell a _ _ H.out.tn.row.tag).setCell a _ _ H.out.tn.row.tag).setCell a _ _ H.out.tn.row.tag).setCell a _ _ H.out.tn.row.tag

set_option maxRecDepth 100000 in
set_option maxHeartbeats 3200000 in
theorem pconfigure_no (a : Nat) (c : Cg) (w : World) (hc : ¬ c.sound) :
    Calls Try.prog 20 #[.pointer (some ⟨a, 0, none⟩), c.val] w fun e w' => e = .returned (.tuple #[.slice none 0 0, .int .i64 1]) ∧ Below w.heap.size w w' := by
  have HS : Bx _ := ⟨fun wx => sound_any c wx false ⟨decide_eq_false hc⟩⟩
  clear hc
  simp only [Cg.val] at *
  go_enter Try.func20, Try.ntmps20
  go_wp2_with fail
  refine (HS.out _).mono ?_
  rintro e w1 ⟨rfl, hb1⟩
  have HB : Bx _ := ⟨hb1⟩
  clear hb1
  go_wp2_with fail
  go_ret2
  exact ⟨rfl, ((Below.refl _ _).alloc (Nat.le_refl _) _).trans (HB.out.mono (by simp))⟩

/-- A configuration that is one, as the caller has it. -/
def Cf.cg (c : Cf) : Cg := ⟨c.buckets, c.quantum, c.packets, c.memory, c.length, c.target, c.interval, c.tau, c.ecn, c.key⟩

theorem Cf.cg_sound (c : Cf) (h : c.ok) : c.cg.sound := by
  obtain ⟨b1, b2, q1, q2, p1, p2, l1, l2, m1, m2, t1, t2, i2, u1, u2, k⟩ := h
  refine ⟨?_, ?_, k⟩
  · simp only [Cg.sizes, Cf.cg]; omega
  · simp only [Cg.times, Cf.cg]; omega

end Go.Proofs.Ytnkicbopebgppaa
