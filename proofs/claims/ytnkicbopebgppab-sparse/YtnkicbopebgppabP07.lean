import Derived.Test.YtnkicbopebgppabP05
import Derived.Test.YtnkicbopebgppabP01
namespace Go.Proofs.Ytnkicbopebgppab
open Go.RowKit Fl

/-- Where goOn stands: the boxes, the bucket, the list of those that were dropped. -/
structure GoSt (own own1 : Nat → Nat) (w wr : World) (tB tq td b ty N o : Nat) (f0 : Nat → Value) (cl : List Value) (k : Bk) (d : List Fm) (f : Fm) (fd : Bool) (f' : Nat → Value) (v' dv : Value) : Prop where
  bk : BkAt own1 wr tB tq b ty N o f' v' k
  out : ∀ j, j < o ∨ o + 8 ≤ j → f' j = f0 j
  fr : Fr (fun t => t = tB ∨ t = tq ∨ t = td) own own1 w wr
  sl : Sl anyG own1 wr td 3 dv d.length (fmCells d)
  g : Box own1 wr w.heap.size [dv, .int .i64 f.id, .string f.s, .int .i64 f.since, .bool fd, .bool false]
  c : Box own1 wr (w.heap.size + 1) cl
  r : Box own1 wr (w.heap.size + 1 + 1) [.slice none 0 0, .int .i64 0, .string ⟨#[]⟩, .int .i64 0, .bool false, .bool false]
  junk : Junk own1 wr

/-- What goOn's rounds keep. -/
structure GoR (own : Nat → Nat) (w wr : World) (tB tq td b ty N o n L : Nat) (f0 : Nat → Value) (cl : List Value) (c : Cf) (now m : Nat) (R : Bk × List Fm × Fm × Bool × Bool) : Prop where
  ex : ∃ own1 k d f fd f' v' dx dc, GoSt own own1 w wr tB tq td b ty N o f0 cl k d f fd f' v' (.slice dx d.length dc) ∧ goOnTo c now m k d f fd = R ∧ k.ok c now n ∧ (k.dropping = true → k.count + k.q.length + 1 ≤ n ∧ fd = true ∧ k.q.length < m) ∧ f.s.size ≤ 200 ∧ d.length + k.q.length + (if fd = true then 1 else 0) ≤ L + 1

section
variable {own own1 own2 : Nat → Nat} {w wr w' : World} {tB tq td b ty N o : Nat} {f0 : Nat → Value} {cl : List Value} {k k' : Bk} {d : List Fm} {f : Fm} {fd : Bool} {f' : Nat → Value} {v' dv : Value}

theorem GoSt.post (S : GoSt own own1 w wr tB tq td b ty N o f0 cl k d f fd f' v' dv) (k0 : Fr (fun t => t = 0) own1 own1 wr w') (k1 : Fr (fun t => t = tB ∨ t = tq ∨ t = td) own own1 w w') (htB : tB ≠ 0) (htq : tq ≠ 0) (htd : td ≠ 0) : GvPost own own1 w w' tB tq td b ty N o f0 k dv d :=
  ⟨⟨f', v', S.bk.fr k0 htB htq, S.out, k1, S.sl.fr k0 htd⟩⟩

theorem GoSt.below (S : GoSt own own1 w wr tB tq td b ty N o f0 cl k d f fd f' v' dv) (k0 : Below wr.heap.size wr w') : GoSt own own1 w w' tB tq td b ty N o f0 cl k d f fd f' v' dv :=
  ⟨S.bk.below k0, S.out, S.fr.trans (Fr.below k0), S.sl.below k0, S.g.below k0, S.c.below k0, S.r.below k0, (Fr.below (T := fun _ => False) (own := own1) k0).junk S.junk⟩

/-- A store into one of the bucket's own cells. -/
theorem GoSt.setB (S : GoSt own own1 w wr tB tq td b ty N o f0 cl k d f fd f' v' dv) (htd1 : td ≠ tB) (hb : b < w.heap.size) (i : Nat) (u : Value) (hq : k'.q = k.q) (hi : i < 8) (hu : ∀ j, j < 8 → bkF v' k' j = if j = i then u else bkF v' k j) :
    ∃ f2, GoSt own own1 w (wr.setCell ⟨b, o + i, none⟩ u) tB tq td b ty N o f0 cl k' d f fd f2 v' dv := by
  obtain ⟨f2, h2, ho2⟩ := S.bk.set i u hq hi hu
  have hf : Fr (fun t => t = tB) own1 own1 wr (wr.setCell ⟨b, o + i, none⟩ u) := (Fr.refl _ _ _).setCell _ _ _ S.bk.row.tag
  exact ⟨f2, h2, fun j hj => (ho2 j hj).trans (S.out j hj), S.fr.setCell b _ _ (.inl S.bk.row.tag), S.sl.fr hf htd1, S.g.other b _ _ (by omega), S.c.other b _ _ (by omega), S.r.other b _ _ (by omega), hf.junk S.junk⟩

/-- What is handed on is told anew. -/
theorem GoSt.setG (S : GoSt own own1 w wr tB tq td b ty N o f0 cl k d f fd f' v' dv) {f2 : Fm} {fd2 : Bool} (k0 : Fr (fun t => t = 0) own1 own1 wr w') (k1 : Fr (fun t => t = tB ∨ t = tq ∨ t = td) own own1 w w') (htB : tB ≠ 0) (htq : tq ≠ 0) (htd : td ≠ 0)
    (hg : Box own1 w' w.heap.size [dv, .int .i64 f2.id, .string f2.s, .int .i64 f2.since, .bool fd2, .bool false]) (hc : Box own1 w' (w.heap.size + 1) cl) (hr : Box own1 w' (w.heap.size + 1 + 1) [.slice none 0 0, .int .i64 0, .string ⟨#[]⟩, .int .i64 0, .bool false, .bool false]) : GoSt own own1 w w' tB tq td b ty N o f0 cl k d f2 fd2 f' v' dv :=
  ⟨S.bk.fr k0 htB htq, S.out, k1, S.sl.fr k0 htd, hg, hc, hr, k0.junk S.junk⟩

end

set_option maxRecDepth 100000 in
set_option maxHeartbeats 12800000 in
theorem goOn_any (own : Nat → Nat) (tB tq td b ty N o n : Nat) (f : Nat → Value) (v : Value) (k : Bk) (fr : Fm) (c : Cf) (now : Nat) (w : World) (h : BkAt own w tB tq b ty N o f v k) (hj : Junk own w) (htB : tB ≠ 0) (htq : tq ≠ 0) (htd : td ≠ 0) (htd1 : td ≠ tB) (htd2 : td ≠ tq)
    (hc : c.ok) (hnow : now ≤ 4611686018427387904) (hk : k.ok c now n) (hn : n ≤ 4000000000) (hr : k.count + k.q.length + 1 ≤ n) (hs : fr.s.size ≤ 200) (R : Bk × List Fm × Fm × Bool × Bool) (hR : Bx (goOnTo c now (k.q.length + 1) k [] fr true = R)) :
    Calls Try.prog 78 #[.pointer (some ⟨b, o, none⟩), gvVal (.slice none 0 0) fr true false, c.val, .int .i64 now] w fun e w' => ∃ own' dv, e = .returned (gvVal dv R.2.2.1 R.2.2.2.1 R.2.2.2.2) ∧ GvPost own own' w w' tB tq td b ty N o f R.1 dv R.2.1 := by
  have hblt := h.row.row.lt
  have hqL : k.q.length ≤ 100 := h.len
  have hT0 : ¬ ((0 : Nat) = tB ∨ (0 : Nat) = tq ∨ (0 : Nat) = td) := by omega
  have hTT : ¬ ((0 : Nat) = tB ∨ (0 : Nat) = tq) := by omega
  obtain ⟨i0, hi, hz0, hz1, hz2⟩ := info_parts infoFrame
  have HMK : Bx _ := ⟨fun (dx : Option Addr) (dn dc : Nat) (f g : Fm) (found : Bool) (m : Bool) (wx : World) => markIfCan_any dx dn dc f g found false m c wx⟩
  have HTK : Bx _ := ⟨fun (own2 : Nat → Nat) (f' : Nat → Value) (v' : Value) (k : Bk) (wx : World) (RR : Fm × Bool × Bool × Bk) => take_bk own2 tB tq b ty N o f' v' k c now wx RR⟩
  have HOF : Bx _ := ⟨fun (m : Nat) (wx : World) => of_any c.interval m wx (by have := hc.t1; have := hc.t2; omega) hc.i2⟩
  have i1 := hc.t1; have i2 := hc.t2; have i3 := hc.i2
  obtain ⟨cL, HcL⟩ : ∃ cL : List Value, Bx (cL = [.int .i64 c.buckets, .int .i64 c.quantum, .int .i64 c.packets, .int .i64 c.memory, .int .i64 c.length, .int .i64 c.target, .int .i64 c.interval, .int .i64 c.tau, .bool c.ecn, .string c.key]) := ⟨_, ⟨rfl⟩⟩
  have H0 : Bx (GoR own w (((w.alloc (Obj.cells #[.slice none 0 0, .int .i64 fr.id, .string fr.s, .int .i64 fr.since, .bool true, .bool false] 113)).alloc (Obj.cells #[.int .i64 c.buckets, .int .i64 c.quantum, .int .i64 c.packets, .int .i64 c.memory, .int .i64 c.length, .int .i64 c.target, .int .i64 c.interval, .int .i64 c.tau, .bool c.ecn, .string c.key] 29)).alloc (Obj.cells #[.slice none 0 0, .int .i64 0, .string ⟨#[]⟩, .int .i64 0, .bool false, .bool false] 113)) tB tq td b ty N o n k.q.length f cL c now (k.q.length + 1) R) := by
    refine ⟨⟨own, k, [], fr, true, f, v, none, 0, ⟨h.below (below3 w _ _ _), fun _ _ => rfl, Fr.below (below3 w _ _ _), Sl.nil _ _ _ _ _, ?_, ?_, ?_, (Fr.below (T := fun _ => False) (own := own) (below3 w _ _ _)).junk hj⟩, hR.out, hk, fun _ => ⟨hr, rfl, Nat.lt_succ_self _⟩, hs, by simp⟩⟩
    · exact Box.six _ _ _ _ _ _ (hj _ (Nat.le_refl _)) (by simp; omega) (by go_simp) (by go_simp) (by go_simp) (by go_simp) (by go_simp) (by go_simp) (fun i => by go_simp)
    · rw [HcL.out]; exact Box.ten _ _ _ _ _ _ _ _ _ _ (hj _ (by omega)) (by simp) (by go_simp) (by go_simp) (by go_simp) (by go_simp) (by go_simp) (by go_simp) (by go_simp) (by go_simp) (by go_simp) (by go_simp) (fun i => by go_simp)
    · exact Box.six _ _ _ _ _ _ (hj _ (by omega)) (by simp) (by go_simp) (by go_simp) (by go_simp) (by go_simp) (by go_simp) (by go_simp) (fun i => by go_simp)
  clear h hk hR hr
  simp only [Cf.val, gvVal] at *
  go_enter Try.func78, Try.ntmps78
  go_wp2_with fail
  have n1 : ¬ w.heap.size = b := by omega
  have n1' : ¬ b = w.heap.size := by omega
  have n2 : ¬ w.heap.size + 1 = b := by omega
  have n2' : ¬ b = w.heap.size + 1 := by omega
  have n3 : ¬ w.heap.size + 1 + 1 = b := by omega
  have n3' : ¬ b = w.heap.size + 1 + 1 := by omega
  go_loopg [] (k.q.length + 1) (fun m wr => GoR own w wr tB tq td b ty N o n k.q.length f cL c now m R)
  case atStart => exact H0.out
  case round =>
    obtain ⟨own1, k1, d, f1, fd, g1, v1, dx, dc, S, hG, hK, hrk, hs1, hL⟩ := hrel.ex
    have q0 : wr.cell? ⟨w.heap.size, 0, none⟩ = some (.slice dx d.length dc) := S.g.cells 0 _ rfl
    have q1 : wr.cell? ⟨w.heap.size, 1, none⟩ = some (.int .i64 f1.id) := S.g.cells 1 _ rfl
    have q2 : wr.cell? ⟨w.heap.size, 2, none⟩ = some (.string f1.s) := S.g.cells 2 _ rfl
    have q3 : wr.cell? ⟨w.heap.size, 3, none⟩ = some (.int .i64 f1.since) := S.g.cells 3 _ rfl
    have q4 : wr.cell? ⟨w.heap.size, 4, none⟩ = some (.bool fd) := S.g.cells 4 _ rfl
    have q5 : wr.cell? ⟨w.heap.size, 5, none⟩ = some (.bool false) := S.g.cells 5 _ rfl
    have qz := S.g.frozen
    have SC := S.c
    rw [HcL.out] at SC
    have pz := SC.frozen
    have p0 : wr.cell? ⟨w.heap.size + 1, 0, none⟩ = some (.int .i64 c.buckets) := SC.cells 0 _ rfl
    have p1 : wr.cell? ⟨w.heap.size + 1, 1, none⟩ = some (.int .i64 c.quantum) := SC.cells 1 _ rfl
    have p2 : wr.cell? ⟨w.heap.size + 1, 2, none⟩ = some (.int .i64 c.packets) := SC.cells 2 _ rfl
    have p3 : wr.cell? ⟨w.heap.size + 1, 3, none⟩ = some (.int .i64 c.memory) := SC.cells 3 _ rfl
    have p4 : wr.cell? ⟨w.heap.size + 1, 4, none⟩ = some (.int .i64 c.length) := SC.cells 4 _ rfl
    have p5 : wr.cell? ⟨w.heap.size + 1, 5, none⟩ = some (.int .i64 c.target) := SC.cells 5 _ rfl
    have p6 : wr.cell? ⟨w.heap.size + 1, 6, none⟩ = some (.int .i64 c.interval) := SC.cells 6 _ rfl
    have p7 : wr.cell? ⟨w.heap.size + 1, 7, none⟩ = some (.int .i64 c.tau) := SC.cells 7 _ rfl
    have p8 : wr.cell? ⟨w.heap.size + 1, 8, none⟩ = some (.bool c.ecn) := SC.cells 8 _ rfl
    have p9 : wr.cell? ⟨w.heap.size + 1, 9, none⟩ = some (.string c.key) := SC.cells 9 _ rfl
    have r0 : wr.cell? ⟨w.heap.size + 1 + 1, 0, none⟩ = some (.slice none 0 0) := S.r.cells 0 _ rfl
    have r1 : wr.cell? ⟨w.heap.size + 1 + 1, 1, none⟩ = some (.int .i64 0) := S.r.cells 1 _ rfl
    have r2 : wr.cell? ⟨w.heap.size + 1 + 1, 2, none⟩ = some (.string ⟨#[]⟩) := S.r.cells 2 _ rfl
    have r3 : wr.cell? ⟨w.heap.size + 1 + 1, 3, none⟩ = some (.int .i64 0) := S.r.cells 3 _ rfl
    have r4 : wr.cell? ⟨w.heap.size + 1 + 1, 4, none⟩ = some (.bool false) := S.r.cells 4 _ rfl
    have r5 : wr.cell? ⟨w.heap.size + 1 + 1, 5, none⟩ = some (.bool false) := S.r.cells 5 _ rfl
    have rz := S.r.frozen
    have l4 : wr.cell? ⟨b, o + 4, none⟩ = some (.bool k1.dropping) := S.bk.cell 4 (by omega)
    have l5 : wr.cell? ⟨b, o + 5, none⟩ = some (.int .i64 k1.next) := S.bk.cell 5 (by omega)
    have l6 : wr.cell? ⟨b, o + 6, none⟩ = some (.int .i64 k1.count) := S.bk.cell 6 (by omega)
    have lz := S.bk.row.row.frozen
    have y0 : w.heap.size < wr.heap.size := S.g.lt
    have y1 : w.heap.size + 1 < wr.heap.size := S.c.lt
    have y2 : w.heap.size + 1 + 1 < wr.heap.size := S.r.lt
    have y3 : b < wr.heap.size := S.bk.row.row.lt
    clear SC
    have HS : Bx _ := ⟨S⟩
    clear S hrel
    by_cases hgo : k1.dropping = true ∧ k1.next ≤ now
    · obtain ⟨m, rfl⟩ : ∃ m, gk = m + 1 := ⟨gk - 1, by have := (hrk hgo.1).2.2; omega⟩
      obtain ⟨hrank, rfl, hqm⟩ := hrk hgo.1
      have hdr := hgo.1
      simp only [if_true] at hL
      have j1 : (k1.next : Int) ≤ now := by have := hgo.2; omega
      rw [hdr] at l4
      have hst := stepOf_le c.interval (k1.count + 1) (by omega)
      obtain ⟨sp, Hsp⟩ : ∃ sp, Bx (stepOf c.interval (k1.count + 1) = sp) := ⟨_, ⟨rfl⟩⟩
      rw [Hsp.out] at hst
      have hof := fun wx => HOF.out (k1.count + 1) wx (by omega) (by omega)
      rw [Hsp.out] at hof
      have HO2 : Bx _ := ⟨hof⟩
      clear hof
      have hw : IntKind.i64.wrap ((k1.next : Int) + sp) = (k1.next : Int) + sp := by have h1 := wrap_i64_in (k1.next + sp) (by omega); rw [show ((k1.next + sp : Nat) : Int) = (k1.next : Int) + sp by omega] at h1; exact h1
      obtain ⟨g2, S2⟩ := HS.out.setB (k' := { k1 with count := k1.count + 1 }) htd1 hblt 6 (.int .i64 ((k1.count : Int) + 1)) rfl (by omega) (fun j hj => by match j, hj with | 0, _ => rfl | 1, _ => rfl | 2, _ => rfl | 3, _ => rfl | 4, _ => rfl | 5, _ => rfl | 6, _ => simp [bkF] | 7, _ => rfl)
      by_cases hm : marksB c f1 = true
      · rw [goOnTo_mark c now m k1 d f1 true hgo hm, Hsp.out] at hG
        obtain ⟨fm, Hfm⟩ : ∃ fm, Bx (fm = f1.mark) := ⟨_, ⟨rfl⟩⟩
        rw [← Hfm.out] at hG
        subst hG
        have HM : Bx _ := ⟨fun wx => HMK.out dx d.length dc f1 fm true true wx (by omega) ⟨hm⟩ ⟨by rw [if_pos rfl]; exact Hfm.out⟩⟩
        have HS2 : Bx _ := ⟨S2⟩
        have hnn : k1.next ≤ now := hgo.2
        clear S2 HS hgo hdr hrk
        go_wp2_with fail
        refine (HM.out _).mono ?_
        rintro e w2 ⟨rfl, hb2⟩
        simp only [Bool.or_true]
        have S3 := HS2.out.below hb2
        clear q0 q1 q2 q3 q4 q5 qz p0 p1 p2 p3 p4 p5 p6 p7 p8 p9 pz r0 r1 r2 r3 r4 r5 rz l4 l5 l6 lz y0 y1 y2 y3 hb2 HM
        have q0 : w2.cell? ⟨w.heap.size, 0, none⟩ = some (.slice dx d.length dc) := S3.g.cells 0 _ rfl
        have q1 : w2.cell? ⟨w.heap.size, 1, none⟩ = some (.int .i64 f1.id) := S3.g.cells 1 _ rfl
        have q2 : w2.cell? ⟨w.heap.size, 2, none⟩ = some (.string f1.s) := S3.g.cells 2 _ rfl
        have q3 : w2.cell? ⟨w.heap.size, 3, none⟩ = some (.int .i64 f1.since) := S3.g.cells 3 _ rfl
        have q4 : w2.cell? ⟨w.heap.size, 4, none⟩ = some (.bool true) := S3.g.cells 4 _ rfl
        have q5 : w2.cell? ⟨w.heap.size, 5, none⟩ = some (.bool false) := S3.g.cells 5 _ rfl
        have qz := S3.g.frozen
        have SC := S3.c
        rw [HcL.out] at SC
        have pz := SC.frozen
        have p0 : w2.cell? ⟨w.heap.size + 1, 0, none⟩ = some (.int .i64 c.buckets) := SC.cells 0 _ rfl
        have p1 : w2.cell? ⟨w.heap.size + 1, 1, none⟩ = some (.int .i64 c.quantum) := SC.cells 1 _ rfl
        have p2 : w2.cell? ⟨w.heap.size + 1, 2, none⟩ = some (.int .i64 c.packets) := SC.cells 2 _ rfl
        have p3 : w2.cell? ⟨w.heap.size + 1, 3, none⟩ = some (.int .i64 c.memory) := SC.cells 3 _ rfl
        have p4 : w2.cell? ⟨w.heap.size + 1, 4, none⟩ = some (.int .i64 c.length) := SC.cells 4 _ rfl
        have p5 : w2.cell? ⟨w.heap.size + 1, 5, none⟩ = some (.int .i64 c.target) := SC.cells 5 _ rfl
        have p6 : w2.cell? ⟨w.heap.size + 1, 6, none⟩ = some (.int .i64 c.interval) := SC.cells 6 _ rfl
        have p7 : w2.cell? ⟨w.heap.size + 1, 7, none⟩ = some (.int .i64 c.tau) := SC.cells 7 _ rfl
        have p8 : w2.cell? ⟨w.heap.size + 1, 8, none⟩ = some (.bool c.ecn) := SC.cells 8 _ rfl
        have p9 : w2.cell? ⟨w.heap.size + 1, 9, none⟩ = some (.string c.key) := SC.cells 9 _ rfl
        have r0 : w2.cell? ⟨w.heap.size + 1 + 1, 0, none⟩ = some (.slice none 0 0) := S3.r.cells 0 _ rfl
        have r1 : w2.cell? ⟨w.heap.size + 1 + 1, 1, none⟩ = some (.int .i64 0) := S3.r.cells 1 _ rfl
        have r2 : w2.cell? ⟨w.heap.size + 1 + 1, 2, none⟩ = some (.string ⟨#[]⟩) := S3.r.cells 2 _ rfl
        have r3 : w2.cell? ⟨w.heap.size + 1 + 1, 3, none⟩ = some (.int .i64 0) := S3.r.cells 3 _ rfl
        have r4 : w2.cell? ⟨w.heap.size + 1 + 1, 4, none⟩ = some (.bool false) := S3.r.cells 4 _ rfl
        have r5 : w2.cell? ⟨w.heap.size + 1 + 1, 5, none⟩ = some (.bool false) := S3.r.cells 5 _ rfl
        have rz := S3.r.frozen
        have l4 : w2.cell? ⟨b, o + 4, none⟩ = some (.bool ({ k1 with count := k1.count + 1 } : Bk).dropping) := S3.bk.cell 4 (by omega)
        have l5 : w2.cell? ⟨b, o + 5, none⟩ = some (.int .i64 ({ k1 with count := k1.count + 1 } : Bk).next) := S3.bk.cell 5 (by omega)
        have l6 : w2.cell? ⟨b, o + 6, none⟩ = some (.int .i64 ({ k1 with count := k1.count + 1 } : Bk).count) := S3.bk.cell 6 (by omega)
        have lz := S3.bk.row.row.frozen
        have y0 : w.heap.size < w2.heap.size := S3.g.lt
        have y1 : w.heap.size + 1 < w2.heap.size := S3.c.lt
        have y2 : w.heap.size + 1 + 1 < w2.heap.size := S3.r.lt
        have y3 : b < w2.heap.size := S3.bk.row.row.lt
        clear SC
        have HS3 : Bx _ := ⟨S3⟩
        clear S3 HS2
        go_wp2_with fail
        have k0 : Fr (fun t => t = 0) own1 own1 w2 ((((((w2.setCell ⟨w.heap.size, 0, none⟩ (.slice dx d.length dc)).setCell ⟨w.heap.size, 1, none⟩ (.int .i64 fm.id)).setCell ⟨w.heap.size, 2, none⟩ (.string fm.s)).setCell ⟨w.heap.size, 3, none⟩ (.int .i64 fm.since)).setCell ⟨w.heap.size, 4, none⟩ (.bool true)).setCell ⟨w.heap.size, 5, none⟩ (.bool true)) := (((((((Fr.refl (fun t => t = 0) own1 w2).setCell (w.heap.size) 0 (.slice dx d.length dc) HS3.out.g.tag).setCell (w.heap.size) 1 (.int .i64 fm.id) HS3.out.g.tag).setCell (w.heap.size) 2 (.string fm.s) HS3.out.g.tag).setCell (w.heap.size) 3 (.int .i64 fm.since) HS3.out.g.tag).setCell (w.heap.size) 4 (.bool true) HS3.out.g.tag).setCell (w.heap.size) 5 (.bool true) HS3.out.g.tag)
        have k1' : Fr (fun t => t = tB ∨ t = tq ∨ t = td) own own1 w ((((((w2.setCell ⟨w.heap.size, 0, none⟩ (.slice dx d.length dc)).setCell ⟨w.heap.size, 1, none⟩ (.int .i64 fm.id)).setCell ⟨w.heap.size, 2, none⟩ (.string fm.s)).setCell ⟨w.heap.size, 3, none⟩ (.int .i64 fm.since)).setCell ⟨w.heap.size, 4, none⟩ (.bool true)).setCell ⟨w.heap.size, 5, none⟩ (.bool true)) := ((((((HS3.out.fr.setNew (w.heap.size) 0 (.slice dx d.length dc) (Nat.le_refl _)).setNew (w.heap.size) 1 (.int .i64 fm.id) (Nat.le_refl _)).setNew (w.heap.size) 2 (.string fm.s) (Nat.le_refl _)).setNew (w.heap.size) 3 (.int .i64 fm.since) (Nat.le_refl _)).setNew (w.heap.size) 4 (.bool true) (Nat.le_refl _)).setNew (w.heap.size) 5 (.bool true) (Nat.le_refl _))
        have K4 : Bx _ := ⟨k0⟩
        have K5 : Bx _ := ⟨k1'⟩
        have s0 : ((((((w2.setCell ⟨w.heap.size, 0, none⟩ (.slice dx d.length dc)).setCell ⟨w.heap.size, 1, none⟩ (.int .i64 fm.id)).setCell ⟨w.heap.size, 2, none⟩ (.string fm.s)).setCell ⟨w.heap.size, 3, none⟩ (.int .i64 fm.since)).setCell ⟨w.heap.size, 4, none⟩ (.bool true)).setCell ⟨w.heap.size, 5, none⟩ (.bool true)).cell? ⟨w.heap.size, 0, none⟩ = some (.slice dx d.length dc) := by go_simp
        have s1 : ((((((w2.setCell ⟨w.heap.size, 0, none⟩ (.slice dx d.length dc)).setCell ⟨w.heap.size, 1, none⟩ (.int .i64 fm.id)).setCell ⟨w.heap.size, 2, none⟩ (.string fm.s)).setCell ⟨w.heap.size, 3, none⟩ (.int .i64 fm.since)).setCell ⟨w.heap.size, 4, none⟩ (.bool true)).setCell ⟨w.heap.size, 5, none⟩ (.bool true)).cell? ⟨w.heap.size, 1, none⟩ = some (.int .i64 fm.id) := by go_simp
        have s2 : ((((((w2.setCell ⟨w.heap.size, 0, none⟩ (.slice dx d.length dc)).setCell ⟨w.heap.size, 1, none⟩ (.int .i64 fm.id)).setCell ⟨w.heap.size, 2, none⟩ (.string fm.s)).setCell ⟨w.heap.size, 3, none⟩ (.int .i64 fm.since)).setCell ⟨w.heap.size, 4, none⟩ (.bool true)).setCell ⟨w.heap.size, 5, none⟩ (.bool true)).cell? ⟨w.heap.size, 2, none⟩ = some (.string fm.s) := by go_simp
        have s3 : ((((((w2.setCell ⟨w.heap.size, 0, none⟩ (.slice dx d.length dc)).setCell ⟨w.heap.size, 1, none⟩ (.int .i64 fm.id)).setCell ⟨w.heap.size, 2, none⟩ (.string fm.s)).setCell ⟨w.heap.size, 3, none⟩ (.int .i64 fm.since)).setCell ⟨w.heap.size, 4, none⟩ (.bool true)).setCell ⟨w.heap.size, 5, none⟩ (.bool true)).cell? ⟨w.heap.size, 3, none⟩ = some (.int .i64 fm.since) := by go_simp
        have s4 : ((((((w2.setCell ⟨w.heap.size, 0, none⟩ (.slice dx d.length dc)).setCell ⟨w.heap.size, 1, none⟩ (.int .i64 fm.id)).setCell ⟨w.heap.size, 2, none⟩ (.string fm.s)).setCell ⟨w.heap.size, 3, none⟩ (.int .i64 fm.since)).setCell ⟨w.heap.size, 4, none⟩ (.bool true)).setCell ⟨w.heap.size, 5, none⟩ (.bool true)).cell? ⟨w.heap.size, 4, none⟩ = some (.bool true) := by go_simp
        have s5 : ((((((w2.setCell ⟨w.heap.size, 0, none⟩ (.slice dx d.length dc)).setCell ⟨w.heap.size, 1, none⟩ (.int .i64 fm.id)).setCell ⟨w.heap.size, 2, none⟩ (.string fm.s)).setCell ⟨w.heap.size, 3, none⟩ (.int .i64 fm.since)).setCell ⟨w.heap.size, 4, none⟩ (.bool true)).setCell ⟨w.heap.size, 5, none⟩ (.bool true)).cell? ⟨w.heap.size, 5, none⟩ = some (.bool true) := by go_simp
        have s6 : ((((((w2.setCell ⟨w.heap.size, 0, none⟩ (.slice dx d.length dc)).setCell ⟨w.heap.size, 1, none⟩ (.int .i64 fm.id)).setCell ⟨w.heap.size, 2, none⟩ (.string fm.s)).setCell ⟨w.heap.size, 3, none⟩ (.int .i64 fm.since)).setCell ⟨w.heap.size, 4, none⟩ (.bool true)).setCell ⟨w.heap.size, 5, none⟩ (.bool true)).cell? ⟨w.heap.size + 1, 6, none⟩ = some (.int .i64 c.interval) := by go_simp
        have t0 : ((((((w2.setCell ⟨w.heap.size, 0, none⟩ (.slice dx d.length dc)).setCell ⟨w.heap.size, 1, none⟩ (.int .i64 fm.id)).setCell ⟨w.heap.size, 2, none⟩ (.string fm.s)).setCell ⟨w.heap.size, 3, none⟩ (.int .i64 fm.since)).setCell ⟨w.heap.size, 4, none⟩ (.bool true)).setCell ⟨w.heap.size, 5, none⟩ (.bool true)).cell? ⟨w.heap.size + 1 + 1, 0, none⟩ = some (.slice none 0 0) := by go_simp
        have t1 : ((((((w2.setCell ⟨w.heap.size, 0, none⟩ (.slice dx d.length dc)).setCell ⟨w.heap.size, 1, none⟩ (.int .i64 fm.id)).setCell ⟨w.heap.size, 2, none⟩ (.string fm.s)).setCell ⟨w.heap.size, 3, none⟩ (.int .i64 fm.since)).setCell ⟨w.heap.size, 4, none⟩ (.bool true)).setCell ⟨w.heap.size, 5, none⟩ (.bool true)).cell? ⟨w.heap.size + 1 + 1, 1, none⟩ = some (.int .i64 0) := by go_simp
        have t2 : ((((((w2.setCell ⟨w.heap.size, 0, none⟩ (.slice dx d.length dc)).setCell ⟨w.heap.size, 1, none⟩ (.int .i64 fm.id)).setCell ⟨w.heap.size, 2, none⟩ (.string fm.s)).setCell ⟨w.heap.size, 3, none⟩ (.int .i64 fm.since)).setCell ⟨w.heap.size, 4, none⟩ (.bool true)).setCell ⟨w.heap.size, 5, none⟩ (.bool true)).cell? ⟨w.heap.size + 1 + 1, 2, none⟩ = some (.string ⟨#[]⟩) := by go_simp
        have t3 : ((((((w2.setCell ⟨w.heap.size, 0, none⟩ (.slice dx d.length dc)).setCell ⟨w.heap.size, 1, none⟩ (.int .i64 fm.id)).setCell ⟨w.heap.size, 2, none⟩ (.string fm.s)).setCell ⟨w.heap.size, 3, none⟩ (.int .i64 fm.since)).setCell ⟨w.heap.size, 4, none⟩ (.bool true)).setCell ⟨w.heap.size, 5, none⟩ (.bool true)).cell? ⟨w.heap.size + 1 + 1, 3, none⟩ = some (.int .i64 0) := by go_simp
        have t4 : ((((((w2.setCell ⟨w.heap.size, 0, none⟩ (.slice dx d.length dc)).setCell ⟨w.heap.size, 1, none⟩ (.int .i64 fm.id)).setCell ⟨w.heap.size, 2, none⟩ (.string fm.s)).setCell ⟨w.heap.size, 3, none⟩ (.int .i64 fm.since)).setCell ⟨w.heap.size, 4, none⟩ (.bool true)).setCell ⟨w.heap.size, 5, none⟩ (.bool true)).cell? ⟨w.heap.size + 1 + 1, 4, none⟩ = some (.bool false) := by go_simp
        have t5 : ((((((w2.setCell ⟨w.heap.size, 0, none⟩ (.slice dx d.length dc)).setCell ⟨w.heap.size, 1, none⟩ (.int .i64 fm.id)).setCell ⟨w.heap.size, 2, none⟩ (.string fm.s)).setCell ⟨w.heap.size, 3, none⟩ (.int .i64 fm.since)).setCell ⟨w.heap.size, 4, none⟩ (.bool true)).setCell ⟨w.heap.size, 5, none⟩ (.bool true)).cell? ⟨w.heap.size + 1 + 1, 5, none⟩ = some (.bool false) := by go_simp
        have tz : ∀ i, ((((((w2.setCell ⟨w.heap.size, 0, none⟩ (.slice dx d.length dc)).setCell ⟨w.heap.size, 1, none⟩ (.int .i64 fm.id)).setCell ⟨w.heap.size, 2, none⟩ (.string fm.s)).setCell ⟨w.heap.size, 3, none⟩ (.int .i64 fm.since)).setCell ⟨w.heap.size, 4, none⟩ (.bool true)).setCell ⟨w.heap.size, 5, none⟩ (.bool true)).frozen? ⟨w.heap.size + 1 + 1, i, none⟩ = false := by intro i; go_simp
        have m5 : ((((((w2.setCell ⟨w.heap.size, 0, none⟩ (.slice dx d.length dc)).setCell ⟨w.heap.size, 1, none⟩ (.int .i64 fm.id)).setCell ⟨w.heap.size, 2, none⟩ (.string fm.s)).setCell ⟨w.heap.size, 3, none⟩ (.int .i64 fm.since)).setCell ⟨w.heap.size, 4, none⟩ (.bool true)).setCell ⟨w.heap.size, 5, none⟩ (.bool true)).cell? ⟨b, o + 5, none⟩ = some (.int .i64 k1.next) := by go_simp
        have m6 : ((((((w2.setCell ⟨w.heap.size, 0, none⟩ (.slice dx d.length dc)).setCell ⟨w.heap.size, 1, none⟩ (.int .i64 fm.id)).setCell ⟨w.heap.size, 2, none⟩ (.string fm.s)).setCell ⟨w.heap.size, 3, none⟩ (.int .i64 fm.since)).setCell ⟨w.heap.size, 4, none⟩ (.bool true)).setCell ⟨w.heap.size, 5, none⟩ (.bool true)).cell? ⟨b, o + 6, none⟩ = some (.int .i64 ((k1.count : Int) + 1)) := by go_simp
        have mz : ∀ i, ((((((w2.setCell ⟨w.heap.size, 0, none⟩ (.slice dx d.length dc)).setCell ⟨w.heap.size, 1, none⟩ (.int .i64 fm.id)).setCell ⟨w.heap.size, 2, none⟩ (.string fm.s)).setCell ⟨w.heap.size, 3, none⟩ (.int .i64 fm.since)).setCell ⟨w.heap.size, 4, none⟩ (.bool true)).setCell ⟨w.heap.size, 5, none⟩ (.bool true)).frozen? ⟨b, i, none⟩ = false := by intro i; go_simp
        have x0 : w.heap.size < ((((((w2.setCell ⟨w.heap.size, 0, none⟩ (.slice dx d.length dc)).setCell ⟨w.heap.size, 1, none⟩ (.int .i64 fm.id)).setCell ⟨w.heap.size, 2, none⟩ (.string fm.s)).setCell ⟨w.heap.size, 3, none⟩ (.int .i64 fm.since)).setCell ⟨w.heap.size, 4, none⟩ (.bool true)).setCell ⟨w.heap.size, 5, none⟩ (.bool true)).heap.size := by simp [World.setCell]; omega
        have x1 : w.heap.size + 1 < ((((((w2.setCell ⟨w.heap.size, 0, none⟩ (.slice dx d.length dc)).setCell ⟨w.heap.size, 1, none⟩ (.int .i64 fm.id)).setCell ⟨w.heap.size, 2, none⟩ (.string fm.s)).setCell ⟨w.heap.size, 3, none⟩ (.int .i64 fm.since)).setCell ⟨w.heap.size, 4, none⟩ (.bool true)).setCell ⟨w.heap.size, 5, none⟩ (.bool true)).heap.size := by simp [World.setCell]; omega
        have x2 : w.heap.size + 1 + 1 < ((((((w2.setCell ⟨w.heap.size, 0, none⟩ (.slice dx d.length dc)).setCell ⟨w.heap.size, 1, none⟩ (.int .i64 fm.id)).setCell ⟨w.heap.size, 2, none⟩ (.string fm.s)).setCell ⟨w.heap.size, 3, none⟩ (.int .i64 fm.since)).setCell ⟨w.heap.size, 4, none⟩ (.bool true)).setCell ⟨w.heap.size, 5, none⟩ (.bool true)).heap.size := by simp [World.setCell]; omega
        have x3 : b < ((((((w2.setCell ⟨w.heap.size, 0, none⟩ (.slice dx d.length dc)).setCell ⟨w.heap.size, 1, none⟩ (.int .i64 fm.id)).setCell ⟨w.heap.size, 2, none⟩ (.string fm.s)).setCell ⟨w.heap.size, 3, none⟩ (.int .i64 fm.since)).setCell ⟨w.heap.size, 4, none⟩ (.bool true)).setCell ⟨w.heap.size, 5, none⟩ (.bool true)).heap.size := by simp [World.setCell]; omega
        clear k0 k1'
        generalize ((((((w2.setCell ⟨w.heap.size, 0, none⟩ (.slice dx d.length dc)).setCell ⟨w.heap.size, 1, none⟩ (.int .i64 fm.id)).setCell ⟨w.heap.size, 2, none⟩ (.string fm.s)).setCell ⟨w.heap.size, 3, none⟩ (.int .i64 fm.since)).setCell ⟨w.heap.size, 4, none⟩ (.bool true)).setCell ⟨w.heap.size, 5, none⟩ (.bool true)) = w4 at *
        clear q0 q1 q2 q3 q4 q5 qz p0 p1 p2 p3 p4 p5 p6 p7 p8 p9 pz r0 r1 r2 r3 r4 r5 rz l4 l5 l6 lz y0 y1 y2 y3
        go_region_with (go_at_call 89; refine (HO2.out _).mono ?_; rintro e w5 ⟨rfl, hb5⟩; have v5 : w5.cell? ⟨b, o + 5, none⟩ = some (.int .i64 k1.next) := (hb5.cell (p := ⟨b, o + 5, none⟩) (by simp; omega)).trans (by go_simp); have vz : ∀ i, w5.frozen? ⟨b, i, none⟩ = false := fun i => (hb5.frozen (p := ⟨b, i, none⟩) (by simp; omega)).trans (by go_simp))
        all_goals
          have z0 : w5.cell? ⟨w.heap.size, 0, none⟩ = some (.slice dx d.length dc) := (hb5.cell (p := ⟨w.heap.size, 0, none⟩) (by simp; omega)).trans (by go_simp)
          have z1 : w5.cell? ⟨w.heap.size, 1, none⟩ = some (.int .i64 fm.id) := (hb5.cell (p := ⟨w.heap.size, 1, none⟩) (by simp; omega)).trans (by go_simp)
          have z2 : w5.cell? ⟨w.heap.size, 2, none⟩ = some (.string fm.s) := (hb5.cell (p := ⟨w.heap.size, 2, none⟩) (by simp; omega)).trans (by go_simp)
          have z3 : w5.cell? ⟨w.heap.size, 3, none⟩ = some (.int .i64 fm.since) := (hb5.cell (p := ⟨w.heap.size, 3, none⟩) (by simp; omega)).trans (by go_simp)
          have z4 : w5.cell? ⟨w.heap.size, 4, none⟩ = some (.bool true) := (hb5.cell (p := ⟨w.heap.size, 4, none⟩) (by simp; omega)).trans (by go_simp)
          have z5 : w5.cell? ⟨w.heap.size, 5, none⟩ = some (.bool true) := (hb5.cell (p := ⟨w.heap.size, 5, none⟩) (by simp; omega)).trans (by go_simp)
          have e0 : w5.cell? ⟨w.heap.size + 1 + 1, 0, none⟩ = some (.slice none 0 0) := (hb5.cell (p := ⟨w.heap.size + 1 + 1, 0, none⟩) (by simp; omega)).trans (by go_simp)
          have e1 : w5.cell? ⟨w.heap.size + 1 + 1, 1, none⟩ = some (.int .i64 0) := (hb5.cell (p := ⟨w.heap.size + 1 + 1, 1, none⟩) (by simp; omega)).trans (by go_simp)
          have e2 : w5.cell? ⟨w.heap.size + 1 + 1, 2, none⟩ = some (.string ⟨#[]⟩) := (hb5.cell (p := ⟨w.heap.size + 1 + 1, 2, none⟩) (by simp; omega)).trans (by go_simp)
          have e3 : w5.cell? ⟨w.heap.size + 1 + 1, 3, none⟩ = some (.int .i64 0) := (hb5.cell (p := ⟨w.heap.size + 1 + 1, 3, none⟩) (by simp; omega)).trans (by go_simp)
          have e4 : w5.cell? ⟨w.heap.size + 1 + 1, 4, none⟩ = some (.bool false) := (hb5.cell (p := ⟨w.heap.size + 1 + 1, 4, none⟩) (by simp; omega)).trans (by go_simp)
          have e5 : w5.cell? ⟨w.heap.size + 1 + 1, 5, none⟩ = some (.bool false) := (hb5.cell (p := ⟨w.heap.size + 1 + 1, 5, none⟩) (by simp; omega)).trans (by go_simp)
          have ez : ∀ i, w5.frozen? ⟨w.heap.size + 1 + 1, i, none⟩ = false := fun i => (hb5.frozen (p := ⟨w.heap.size + 1 + 1, i, none⟩) (by simp; omega)).trans (by go_simp)
          have hbk5 := ((HS3.out.bk.fr K4.out htB htq).below ((Below.refl _ _).drew)).below hb5
          have hsl5 := ((HS3.out.sl.fr K4.out htd).below ((Below.refl _ _).drew)).below hb5
          have hfr5 := K5.out.drew.trans (Fr.below hb5)
          obtain ⟨g6, h6, ho6⟩ := hbk5.set (k' := { k1 with count := k1.count + 1, next := k1.next + sp }) 5 (.int .i64 ((k1.next : Int) + sp)) rfl (by omega) (fun j hj => by match j, hj with | 0, _ => rfl | 1, _ => rfl | 2, _ => rfl | 3, _ => rfl | 4, _ => rfl | 5, _ => simp [bkF] | 6, _ => rfl | 7, _ => rfl)
          have H6 : Bx (BkAt own1 (w5.setCell ⟨b, o + 5, none⟩ (.int .i64 ((k1.next : Int) + sp))) tB tq b ty N o g6 v1 { k1 with count := k1.count + 1, next := k1.next + sp } ∧ Fr (fun t => t = tB ∨ t = tq ∨ t = td) own own1 w (w5.setCell ⟨b, o + 5, none⟩ (.int .i64 ((k1.next : Int) + sp))) ∧ Sl anyG own1 (w5.setCell ⟨b, o + 5, none⟩ (.int .i64 ((k1.next : Int) + sp))) td 3 (.slice dx d.length dc) d.length (fmCells d)) := ⟨h6, hfr5.setCell b _ _ (.inl hbk5.row.tag), hsl5.fr (T := fun t => t = tB) ((Fr.refl _ _ _).setCell b _ _ hbk5.row.tag) htd1⟩
          have h5s := hb5.size
          simp at h5s
          clear s0 s1 s2 s3 s4 s5 s6 t0 t1 t2 t3 t4 t5 tz m5 m6 mz hb5 hbk5 hsl5 hfr5 h6
          go_wp2_with fail
          refine bodyPost_ret (v := .agg #[.slice dx d.length dc, .int .i64 fm.id, .string fm.s, .int .i64 fm.since, .bool true, .bool true]) (by simp [results, Try.results78, go_sem, e0, e1, e2, e3, e4, e5]) rfl ⟨own1, .slice dx d.length dc, rfl, ⟨g6, v1, H6.out.1.fr (((((((Fr.refl (fun t => t = 0) own1 _).setCell (w.heap.size + 1 + 1) _ _ HS3.out.r.tag).setCell (w.heap.size + 1 + 1) _ _ HS3.out.r.tag).setCell (w.heap.size + 1 + 1) _ _ HS3.out.r.tag).setCell (w.heap.size + 1 + 1) _ _ HS3.out.r.tag).setCell (w.heap.size + 1 + 1) _ _ HS3.out.r.tag).setCell (w.heap.size + 1 + 1) _ _ HS3.out.r.tag) htB htq, fun j hj => (ho6 j hj).trans (HS3.out.out j hj), ((((((H6.out.2.1.setNew (w.heap.size + 1 + 1) _ _ (by omega)).setNew (w.heap.size + 1 + 1) _ _ (by omega)).setNew (w.heap.size + 1 + 1) _ _ (by omega)).setNew (w.heap.size + 1 + 1) _ _ (by omega)).setNew (w.heap.size + 1 + 1) _ _ (by omega)).setNew (w.heap.size + 1 + 1) _ _ (by omega)), H6.out.2.2.fr (((((((Fr.refl (fun t => t = 0) own1 _).setCell (w.heap.size + 1 + 1) _ _ HS3.out.r.tag).setCell (w.heap.size + 1 + 1) _ _ HS3.out.r.tag).setCell (w.heap.size + 1 + 1) _ _ HS3.out.r.tag).setCell (w.heap.size + 1 + 1) _ _ HS3.out.r.tag).setCell (w.heap.size + 1 + 1) _ _ HS3.out.r.tag).setCell (w.heap.size + 1 + 1) _ _ HS3.out.r.tag) htd⟩⟩
      · have hm' : marksB c f1 = false := by simpa using hm
        have hab : k1.above ≤ 9000000000000000000 := by have := hK.ab; omega
        have hok2 : ({ k1 with count := k1.count + 1 } : Bk).ok c now n := ⟨hK.one, hK.si, hK.ab, hK.ab1, hK.nx, by show k1.count + 1 + k1.q.length ≤ n; omega, by show k1.last ≤ k1.count + 1; have := hK.la; omega⟩
        have hsi : ∀ x ∈ k1.q, x.since ≤ now := hK.si
        have hone : ∀ x ∈ k1.q, x.s.size ≤ 200 := fun x hx => Nat.le_trans (hK.one x hx).2 hc.l2
        have TI := Bk.take_is _ c now n hc hok2
        rcases ht : ({ k1 with count := k1.count + 1 } : Bk).take c now with ⟨f2, fd2, late2, k2⟩
        rw [ht] at TI
        have hF2 : f2.s.size ≤ 200 := by
          cases hfd : fd2 with
          | true => have e1 : k1.q = f2 :: k2.q := TI.yes hfd; exact hone f2 (by rw [e1]; simp)
          | false =>
            have e1 := (TI.no hfd).1
            have e2 : ({ k1 with count := k1.count + 1 } : Bk).drop = (noFm, false, { k1 with count := k1.count + 1 }) := by unfold Bk.drop; rw [e1]
            have e3 := Bk.take_a { k1 with count := k1.count + 1 } c now (.inl (by rw [e2]))
            rw [ht, e2] at e3
            injection e3 with e4 _
            rw [e4]; exact Nat.zero_le _
        have HT2 : Bx (({ k1 with count := k1.count + 1 } : Bk).take c now = (f2, fd2, late2, k2)) := ⟨ht⟩
        have HTI : Bx _ := ⟨TI⟩
        have HHG : Bx (late2 = true → goOnTo c now m { k2 with next := k2.next + sp } (d ++ [f1]) f2 fd2 = R) := ⟨fun e => by
          subst e
          rw [goOnTo_late c now m k1 k2 d f1 f2 true fd2 hgo hm ht] at hG
          have c1 : k2.count = k1.count + 1 := TI.count
          rw [show stepOf c.interval k2.count = sp by rw [c1, Hsp.out]] at hG
          exact hG⟩
        have HHC : Bx (late2 = false → goOnTo c now m { k2 with dropping := false } (d ++ [f1]) f2 fd2 = R) := ⟨fun e => by
          subst e
          rw [goOnTo_calm c now m k1 k2 d f1 f2 true fd2 hgo hm ht] at hG
          exact hG⟩
        have HM : Bx _ := ⟨fun wx => HMK.out dx d.length dc f1 f1 true false wx (by omega) ⟨hm'⟩ ⟨by simp⟩⟩
        have HN1 : Bx (∀ u ∈ f1.cells, u.oneCell' = true) := ⟨by intro u hu; simp only [Fm.cells, List.mem_cons, List.not_mem_nil, or_false] at hu; rcases hu with rfl | rfl | rfl <;> rfl⟩
        have HS2 : Bx _ := ⟨S2⟩
        have HK : Bx _ := ⟨hK⟩
        have hnn : k1.next ≤ now := hgo.2
        clear S2 HS hgo hdr hrk hG hm hm' TI ht hone hok2 hK
        go_wp2_with fail
        refine (HM.out _).mono ?_
        rintro e w2 ⟨rfl, hb2⟩
        simp only [Bool.or_false]
        have S3 := HS2.out.below hb2
        clear q0 q1 q2 q3 q4 q5 qz p0 p1 p2 p3 p4 p5 p6 p7 p8 p9 pz r0 r1 r2 r3 r4 r5 rz l4 l5 l6 lz y0 y1 y2 y3 hb2 HM
        have q0 : w2.cell? ⟨w.heap.size, 0, none⟩ = some (.slice dx d.length dc) := S3.g.cells 0 _ rfl
        have q1 : w2.cell? ⟨w.heap.size, 1, none⟩ = some (.int .i64 f1.id) := S3.g.cells 1 _ rfl
        have q2 : w2.cell? ⟨w.heap.size, 2, none⟩ = some (.string f1.s) := S3.g.cells 2 _ rfl
        have q3 : w2.cell? ⟨w.heap.size, 3, none⟩ = some (.int .i64 f1.since) := S3.g.cells 3 _ rfl
        have q4 : w2.cell? ⟨w.heap.size, 4, none⟩ = some (.bool true) := S3.g.cells 4 _ rfl
        have q5 : w2.cell? ⟨w.heap.size, 5, none⟩ = some (.bool false) := S3.g.cells 5 _ rfl
        have qz := S3.g.frozen
        have SC := S3.c
        rw [HcL.out] at SC
        have pz := SC.frozen
        have p0 : w2.cell? ⟨w.heap.size + 1, 0, none⟩ = some (.int .i64 c.buckets) := SC.cells 0 _ rfl
        have p1 : w2.cell? ⟨w.heap.size + 1, 1, none⟩ = some (.int .i64 c.quantum) := SC.cells 1 _ rfl
        have p2 : w2.cell? ⟨w.heap.size + 1, 2, none⟩ = some (.int .i64 c.packets) := SC.cells 2 _ rfl
        have p3 : w2.cell? ⟨w.heap.size + 1, 3, none⟩ = some (.int .i64 c.memory) := SC.cells 3 _ rfl
        have p4 : w2.cell? ⟨w.heap.size + 1, 4, none⟩ = some (.int .i64 c.length) := SC.cells 4 _ rfl
        have p5 : w2.cell? ⟨w.heap.size + 1, 5, none⟩ = some (.int .i64 c.target) := SC.cells 5 _ rfl
        have p6 : w2.cell? ⟨w.heap.size + 1, 6, none⟩ = some (.int .i64 c.interval) := SC.cells 6 _ rfl
        have p7 : w2.cell? ⟨w.heap.size + 1, 7, none⟩ = some (.int .i64 c.tau) := SC.cells 7 _ rfl
        have p8 : w2.cell? ⟨w.heap.size + 1, 8, none⟩ = some (.bool c.ecn) := SC.cells 8 _ rfl
        have p9 : w2.cell? ⟨w.heap.size + 1, 9, none⟩ = some (.string c.key) := SC.cells 9 _ rfl
        have r0 : w2.cell? ⟨w.heap.size + 1 + 1, 0, none⟩ = some (.slice none 0 0) := S3.r.cells 0 _ rfl
        have r1 : w2.cell? ⟨w.heap.size + 1 + 1, 1, none⟩ = some (.int .i64 0) := S3.r.cells 1 _ rfl
        have r2 : w2.cell? ⟨w.heap.size + 1 + 1, 2, none⟩ = some (.string ⟨#[]⟩) := S3.r.cells 2 _ rfl
        have r3 : w2.cell? ⟨w.heap.size + 1 + 1, 3, none⟩ = some (.int .i64 0) := S3.r.cells 3 _ rfl
        have r4 : w2.cell? ⟨w.heap.size + 1 + 1, 4, none⟩ = some (.bool false) := S3.r.cells 4 _ rfl
        have r5 : w2.cell? ⟨w.heap.size + 1 + 1, 5, none⟩ = some (.bool false) := S3.r.cells 5 _ rfl
        have rz := S3.r.frozen
        have l4 : w2.cell? ⟨b, o + 4, none⟩ = some (.bool ({ k1 with count := k1.count + 1 } : Bk).dropping) := S3.bk.cell 4 (by omega)
        have l5 : w2.cell? ⟨b, o + 5, none⟩ = some (.int .i64 ({ k1 with count := k1.count + 1 } : Bk).next) := S3.bk.cell 5 (by omega)
        have l6 : w2.cell? ⟨b, o + 6, none⟩ = some (.int .i64 ({ k1 with count := k1.count + 1 } : Bk).count) := S3.bk.cell 6 (by omega)
        have lz := S3.bk.row.row.frozen
        have y0 : w.heap.size < w2.heap.size := S3.g.lt
        have y1 : w.heap.size + 1 < w2.heap.size := S3.c.lt
        have y2 : w.heap.size + 1 + 1 < w2.heap.size := S3.r.lt
        have y3 : b < w2.heap.size := S3.bk.row.row.lt
        clear SC
        have HS3 : Bx _ := ⟨S3⟩
        clear S3 HS2
        have K4 : Bx (Fr (fun t => t = 0) own1 own1 w2 (((((((w2.setCell ⟨w.heap.size, 0, none⟩ (.slice dx d.length dc)).setCell ⟨w.heap.size, 1, none⟩ (.int .i64 f1.id)).setCell ⟨w.heap.size, 2, none⟩ (.string f1.s)).setCell ⟨w.heap.size, 3, none⟩ (.int .i64 f1.since)).setCell ⟨w.heap.size, 4, none⟩ (.bool true)).setCell ⟨w.heap.size, 5, none⟩ (.bool false)).alloc (Obj.cells #[.int .i64 f1.id, .string f1.s, .int .i64 f1.since] 98))) := ⟨(((((((Fr.refl (fun t => t = 0) own1 w2).setCell (w.heap.size) 0 (.slice dx d.length dc) HS3.out.g.tag).setCell (w.heap.size) 1 (.int .i64 f1.id) HS3.out.g.tag).setCell (w.heap.size) 2 (.string f1.s) HS3.out.g.tag).setCell (w.heap.size) 3 (.int .i64 f1.since) HS3.out.g.tag).setCell (w.heap.size) 4 (.bool true) HS3.out.g.tag).setCell (w.heap.size) 5 (.bool false) HS3.out.g.tag).alloc _⟩
        have K5 : Bx (Fr (fun t => t = tB ∨ t = tq ∨ t = td) own own1 w (((((((w2.setCell ⟨w.heap.size, 0, none⟩ (.slice dx d.length dc)).setCell ⟨w.heap.size, 1, none⟩ (.int .i64 f1.id)).setCell ⟨w.heap.size, 2, none⟩ (.string f1.s)).setCell ⟨w.heap.size, 3, none⟩ (.int .i64 f1.since)).setCell ⟨w.heap.size, 4, none⟩ (.bool true)).setCell ⟨w.heap.size, 5, none⟩ (.bool false)).alloc (Obj.cells #[.int .i64 f1.id, .string f1.s, .int .i64 f1.since] 98))) := ⟨((((((HS3.out.fr.setNew (w.heap.size) 0 (.slice dx d.length dc) (Nat.le_refl _)).setNew (w.heap.size) 1 (.int .i64 f1.id) (Nat.le_refl _)).setNew (w.heap.size) 2 (.string f1.s) (Nat.le_refl _)).setNew (w.heap.size) 3 (.int .i64 f1.since) (Nat.le_refl _)).setNew (w.heap.size) 4 (.bool true) (Nat.le_refl _)).setNew (w.heap.size) 5 (.bool false) (Nat.le_refl _)).alloc _⟩
        have bG : Bx (Box own1 (((((((w2.setCell ⟨w.heap.size, 0, none⟩ (.slice dx d.length dc)).setCell ⟨w.heap.size, 1, none⟩ (.int .i64 f1.id)).setCell ⟨w.heap.size, 2, none⟩ (.string f1.s)).setCell ⟨w.heap.size, 3, none⟩ (.int .i64 f1.since)).setCell ⟨w.heap.size, 4, none⟩ (.bool true)).setCell ⟨w.heap.size, 5, none⟩ (.bool false)).alloc (Obj.cells #[.int .i64 f1.id, .string f1.s, .int .i64 f1.since] 98)) (w.heap.size) [.slice dx d.length dc, .int .i64 f1.id, .string f1.s, .int .i64 f1.since, .bool true, .bool false]) := ⟨Box.six _ _ _ _ _ _ HS3.out.g.tag (by simp [World.setCell]; omega) (by go_simp) (by go_simp) (by go_simp) (by go_simp) (by go_simp) (by go_simp) (fun i => by go_simp)⟩
        have bC : Bx (Box own1 (((((((w2.setCell ⟨w.heap.size, 0, none⟩ (.slice dx d.length dc)).setCell ⟨w.heap.size, 1, none⟩ (.int .i64 f1.id)).setCell ⟨w.heap.size, 2, none⟩ (.string f1.s)).setCell ⟨w.heap.size, 3, none⟩ (.int .i64 f1.since)).setCell ⟨w.heap.size, 4, none⟩ (.bool true)).setCell ⟨w.heap.size, 5, none⟩ (.bool false)).alloc (Obj.cells #[.int .i64 f1.id, .string f1.s, .int .i64 f1.since] 98)) (w.heap.size + 1) cL) := ⟨by rw [HcL.out]; exact Box.ten _ _ _ _ _ _ _ _ _ _ HS3.out.c.tag (by simp [World.setCell]; omega) (by go_simp) (by go_simp) (by go_simp) (by go_simp) (by go_simp) (by go_simp) (by go_simp) (by go_simp) (by go_simp) (by go_simp) (fun i => by go_simp)⟩
        have bR : Bx (Box own1 (((((((w2.setCell ⟨w.heap.size, 0, none⟩ (.slice dx d.length dc)).setCell ⟨w.heap.size, 1, none⟩ (.int .i64 f1.id)).setCell ⟨w.heap.size, 2, none⟩ (.string f1.s)).setCell ⟨w.heap.size, 3, none⟩ (.int .i64 f1.since)).setCell ⟨w.heap.size, 4, none⟩ (.bool true)).setCell ⟨w.heap.size, 5, none⟩ (.bool false)).alloc (Obj.cells #[.int .i64 f1.id, .string f1.s, .int .i64 f1.since] 98)) (w.heap.size + 1 + 1) [.slice none 0 0, .int .i64 0, .string ⟨#[]⟩, .int .i64 0, .bool false, .bool false]) := ⟨Box.six _ _ _ _ _ _ HS3.out.r.tag (by simp [World.setCell]; omega) (by go_simp) (by go_simp) (by go_simp) (by go_simp) (by go_simp) (by go_simp) (fun i => by go_simp)⟩
        go_wp2_with (at_builtin; refine wpList_append_sl _ rfl _ _ 91 rfl 98 i0 _ 3 32 Try.underlying91 hi hz0 hz1 hz2 rfl (by decide) anyG own1 td (.slice dx d.length dc) d.length (fmCells d) rfl (HS3.out.sl.fr K4.out htd) ⟨w2.heap.size, 0, none⟩ 1 1 f1.cells rfl rfl (cells3 (by go_simp) (by go_simp) (by go_simp)) HN1.out (fun _ _ _ => trivial) (fun _ _ _ => trivial) (by decide) (by unfold maxLen; omega) (by omega) ?_)
        intro v3 w3 own3 hsl3 hfr3 db dk hv3
        subst hv3
        have h3g := bG.out.fr hfr3 (fun e => htd e.symm)
        have h3c := bC.out.fr hfr3 (fun e => htd e.symm)
        have h3r := bR.out.fr hfr3 (fun e => htd e.symm)
        have h3b := (HS3.out.bk.fr K4.out htB htq).fr hfr3 htd1.symm htd2.symm
        have h3f : Fr (fun t => t = tB ∨ t = tq ∨ t = td) own own3 w w3 := K5.out.trans (hfr3.mono (fun t e => .inr (.inr e)))
        have h3j : Junk own3 w3 := h3f.junk hj
        have hs3 : Sl anyG own3 w3 td 3 (.slice (some db) (d.length + 1) dk) (d ++ [f1]).length (fmCells (d ++ [f1])) := by rw [fmCells_snoc, List.length_append]; exact hsl3
        have S4 : GoSt own own3 w w3 tB tq td b ty N o f cL { k1 with count := k1.count + 1 } d f1 true g2 v1 (.slice dx d.length dc) → True := fun _ => trivial
        clear S4 q0 q1 q2 q3 q4 q5 qz p0 p1 p2 p3 p4 p5 p6 p7 p8 p9 pz r0 r1 r2 r3 r4 r5 rz l4 l5 l6 lz y0 y1 y2 y3
        have q0 : w3.cell? ⟨w.heap.size, 0, none⟩ = some (.slice dx d.length dc) := h3g.cells 0 _ rfl
        have q1 : w3.cell? ⟨w.heap.size, 1, none⟩ = some (.int .i64 f1.id) := h3g.cells 1 _ rfl
        have q2 : w3.cell? ⟨w.heap.size, 2, none⟩ = some (.string f1.s) := h3g.cells 2 _ rfl
        have q3 : w3.cell? ⟨w.heap.size, 3, none⟩ = some (.int .i64 f1.since) := h3g.cells 3 _ rfl
        have q4 : w3.cell? ⟨w.heap.size, 4, none⟩ = some (.bool true) := h3g.cells 4 _ rfl
        have q5 : w3.cell? ⟨w.heap.size, 5, none⟩ = some (.bool false) := h3g.cells 5 _ rfl
        have qz := h3g.frozen
        have h3c' := h3c
        have pz := h3c.frozen
        rw [HcL.out] at h3c'
        have p0 : w3.cell? ⟨w.heap.size + 1, 0, none⟩ = some (.int .i64 c.buckets) := h3c'.cells 0 _ rfl
        have p1 : w3.cell? ⟨w.heap.size + 1, 1, none⟩ = some (.int .i64 c.quantum) := h3c'.cells 1 _ rfl
        have p2 : w3.cell? ⟨w.heap.size + 1, 2, none⟩ = some (.int .i64 c.packets) := h3c'.cells 2 _ rfl
        have p3 : w3.cell? ⟨w.heap.size + 1, 3, none⟩ = some (.int .i64 c.memory) := h3c'.cells 3 _ rfl
        have p4 : w3.cell? ⟨w.heap.size + 1, 4, none⟩ = some (.int .i64 c.length) := h3c'.cells 4 _ rfl
        have p5 : w3.cell? ⟨w.heap.size + 1, 5, none⟩ = some (.int .i64 c.target) := h3c'.cells 5 _ rfl
        have p6 : w3.cell? ⟨w.heap.size + 1, 6, none⟩ = some (.int .i64 c.interval) := h3c'.cells 6 _ rfl
        have p7 : w3.cell? ⟨w.heap.size + 1, 7, none⟩ = some (.int .i64 c.tau) := h3c'.cells 7 _ rfl
        have p8 : w3.cell? ⟨w.heap.size + 1, 8, none⟩ = some (.bool c.ecn) := h3c'.cells 8 _ rfl
        have p9 : w3.cell? ⟨w.heap.size + 1, 9, none⟩ = some (.string c.key) := h3c'.cells 9 _ rfl
        have y0 : w.heap.size < w3.heap.size := h3g.lt
        have y1 : w.heap.size + 1 < w3.heap.size := h3c.lt
        have y2 : w.heap.size + 1 + 1 < w3.heap.size := h3r.lt
        have y3 : b < w3.heap.size := h3b.row.row.lt
        have H3 : Bx (Box own3 w3 (w.heap.size + 1) cL ∧ Box own3 w3 (w.heap.size + 1 + 1) [.slice none 0 0, .int .i64 0, .string ⟨#[]⟩, .int .i64 0, .bool false, .bool false] ∧ BkAt own3 w3 tB tq b ty N o g2 v1 { k1 with count := k1.count + 1 } ∧ Fr (fun t => t = tB ∨ t = tq ∨ t = td) own own3 w w3 ∧ Junk own3 w3 ∧ Sl anyG own3 w3 td 3 (.slice (some db) (d.length + 1) dk) (d ++ [f1]).length (fmCells (d ++ [f1]))) := ⟨h3c, h3r, h3b, h3f, h3j, hs3⟩
        have H3t : Bx (own3 w.heap.size = 0) := ⟨h3g.tag⟩
        clear h3g h3c h3c' h3r h3b h3f h3j hs3 hsl3 hfr3 bG bC bR K4 K5
        go_wp2_with fail
        have z0 : Fr (fun t => t = 0) own3 own3 w3 (w3.setCell ⟨w.heap.size, 0, none⟩ (.slice (some db) (d.length + 1) dk)) := (Fr.refl _ _ _).setCell _ _ _ H3t.out
        have S5 : GoSt own own3 w (w3.setCell ⟨w.heap.size, 0, none⟩ (.slice (some db) (d.length + 1) dk)) tB tq td b ty N o f cL { k1 with count := k1.count + 1 } (d ++ [f1]) f1 true g2 v1 (.slice (some db) (d.length + 1) dk) := ⟨H3.out.2.2.1.fr z0 htB htq, HS3.out.out, H3.out.2.2.2.1.setNew _ _ _ (Nat.le_refl _), H3.out.2.2.2.2.2.fr z0 htd, Box.six _ _ _ _ _ _ H3t.out (by simp [World.setCell]; omega) (by go_simp) (by go_simp) (by go_simp) (by go_simp) (by go_simp) (by go_simp) (fun i => by go_simp), H3.out.1.other _ _ _ (by omega), H3.out.2.1.other _ _ _ (by omega), z0.junk H3.out.2.2.2.2.1⟩
        refine (HTK.out own3 g2 v1 { k1 with count := k1.count + 1 } _ (f2, fd2, late2, k2) HT2 S5.bk S5.junk htB htq hc hnow hab hsi).mono ?_
        rintro e w4 ⟨rfl, hP4⟩
        obtain ⟨g4, v4, h4, ho4, hf4⟩ := hP4.ex
        have S6 : GoSt own own3 w w4 tB tq td b ty N o f cL k2 (d ++ [f1]) f1 true g4 v4 (.slice (some db) (d.length + 1) dk) := ⟨h4, fun j hj => (ho4 j hj).trans (HS3.out.out j hj), S5.fr.trans (hf4.mono (fun t e => e.elim .inl (fun x => .inr (.inl x)))), S5.sl.fr hf4 (fun e => e.elim htd1 htd2), S5.g.fr hf4 hTT, S5.c.fr hf4 hTT, S5.r.fr hf4 hTT, hf4.junk S5.junk⟩
        clear q0 q1 q2 q3 q4 q5 qz p0 p1 p2 p3 p4 p5 p6 p7 p8 p9 pz y0 y1 y2 y3 S5 z0 hP4 h4 ho4 hf4 H3 HS3
        have q0 : w4.cell? ⟨w.heap.size, 0, none⟩ = some (.slice (some db) (d.length + 1) dk) := S6.g.cells 0 _ rfl
        have q1 : w4.cell? ⟨w.heap.size, 1, none⟩ = some (.int .i64 f1.id) := S6.g.cells 1 _ rfl
        have q2 : w4.cell? ⟨w.heap.size, 2, none⟩ = some (.string f1.s) := S6.g.cells 2 _ rfl
        have q3 : w4.cell? ⟨w.heap.size, 3, none⟩ = some (.int .i64 f1.since) := S6.g.cells 3 _ rfl
        have q4 : w4.cell? ⟨w.heap.size, 4, none⟩ = some (.bool true) := S6.g.cells 4 _ rfl
        have q5 : w4.cell? ⟨w.heap.size, 5, none⟩ = some (.bool false) := S6.g.cells 5 _ rfl
        have qz := S6.g.frozen
        have SC := S6.c
        rw [HcL.out] at SC
        have pz := SC.frozen
        have p0 : w4.cell? ⟨w.heap.size + 1, 0, none⟩ = some (.int .i64 c.buckets) := SC.cells 0 _ rfl
        have p1 : w4.cell? ⟨w.heap.size + 1, 1, none⟩ = some (.int .i64 c.quantum) := SC.cells 1 _ rfl
        have p2 : w4.cell? ⟨w.heap.size + 1, 2, none⟩ = some (.int .i64 c.packets) := SC.cells 2 _ rfl
        have p3 : w4.cell? ⟨w.heap.size + 1, 3, none⟩ = some (.int .i64 c.memory) := SC.cells 3 _ rfl
        have p4 : w4.cell? ⟨w.heap.size + 1, 4, none⟩ = some (.int .i64 c.length) := SC.cells 4 _ rfl
        have p5 : w4.cell? ⟨w.heap.size + 1, 5, none⟩ = some (.int .i64 c.target) := SC.cells 5 _ rfl
        have p6 : w4.cell? ⟨w.heap.size + 1, 6, none⟩ = some (.int .i64 c.interval) := SC.cells 6 _ rfl
        have p7 : w4.cell? ⟨w.heap.size + 1, 7, none⟩ = some (.int .i64 c.tau) := SC.cells 7 _ rfl
        have p8 : w4.cell? ⟨w.heap.size + 1, 8, none⟩ = some (.bool c.ecn) := SC.cells 8 _ rfl
        have p9 : w4.cell? ⟨w.heap.size + 1, 9, none⟩ = some (.string c.key) := SC.cells 9 _ rfl
        have r0 : w4.cell? ⟨w.heap.size + 1 + 1, 0, none⟩ = some (.slice none 0 0) := S6.r.cells 0 _ rfl
        have r1 : w4.cell? ⟨w.heap.size + 1 + 1, 1, none⟩ = some (.int .i64 0) := S6.r.cells 1 _ rfl
        have r2 : w4.cell? ⟨w.heap.size + 1 + 1, 2, none⟩ = some (.string ⟨#[]⟩) := S6.r.cells 2 _ rfl
        have r3 : w4.cell? ⟨w.heap.size + 1 + 1, 3, none⟩ = some (.int .i64 0) := S6.r.cells 3 _ rfl
        have r4 : w4.cell? ⟨w.heap.size + 1 + 1, 4, none⟩ = some (.bool false) := S6.r.cells 4 _ rfl
        have r5 : w4.cell? ⟨w.heap.size + 1 + 1, 5, none⟩ = some (.bool false) := S6.r.cells 5 _ rfl
        have rz := S6.r.frozen
        have l4 : w4.cell? ⟨b, o + 4, none⟩ = some (.bool k2.dropping) := S6.bk.cell 4 (by omega)
        have l5 : w4.cell? ⟨b, o + 5, none⟩ = some (.int .i64 k2.next) := S6.bk.cell 5 (by omega)
        have l6 : w4.cell? ⟨b, o + 6, none⟩ = some (.int .i64 k2.count) := S6.bk.cell 6 (by omega)
        have lz := S6.bk.row.row.frozen
        have y0 : w.heap.size < w4.heap.size := S6.g.lt
        have y1 : w.heap.size + 1 < w4.heap.size := S6.c.lt
        have y2 : w.heap.size + 1 + 1 < w4.heap.size := S6.r.lt
        have y3 : b < w4.heap.size := S6.bk.row.row.lt
        clear SC
        have HS6 : Bx _ := ⟨S6⟩
        clear S6
        simp only [Fm.val]
        have c1 : k2.count = k1.count + 1 := HTI.out.count
        have c2 : k2.next = k1.next := HTI.out.next
        have HC12 : Bx (k2.count = k1.count + 1 ∧ k2.next = k1.next) := ⟨c1, c2⟩
        rw [c2] at l5
        rw [c1] at l6
        clear c1 c2
        have hqlen : (d ++ [f1]).length + k2.q.length + (if fd2 = true then 1 else 0) ≤ k.q.length + 1 := by
          cases hfd : fd2 with
          | true => have e1 : k1.q = f2 :: k2.q := HTI.out.yes hfd; rw [e1] at hL; simp at hL ⊢; omega
          | false => have e1 := HTI.out.no hfd; rw [e1.2.1]; simp; omega
        have hokN : k2.ok c now n := HTI.out.ok.mono (Nat.le_refl _) (Nat.sub_le _ _)
        have HQL : Bx _ := ⟨hqlen⟩
        have HOKN : Bx _ := ⟨hokN⟩
        clear hqlen hokN
        have bG : Box own3 ((((w4.setCell ⟨w.heap.size, 1, none⟩ (.int .i64 f2.id)).setCell ⟨w.heap.size, 2, none⟩ (.string f2.s)).setCell ⟨w.heap.size, 3, none⟩ (.int .i64 f2.since)).setCell ⟨w.heap.size, 4, none⟩ (.bool fd2)) (w.heap.size) [.slice (some db) (d.length + 1) dk, .int .i64 f2.id, .string f2.s, .int .i64 f2.since, .bool fd2, .bool false] := Box.six _ _ _ _ _ _ HS6.out.g.tag (by simp [World.setCell]; omega) (by go_simp) (by go_simp) (by go_simp) (by go_simp) (by go_simp) (by go_simp) (fun i => by go_simp)
        have S7 := HS6.out.setG (f2 := f2) (fd2 := fd2) (((((Fr.refl (fun t => t = 0) own3 w4).setCell (w.heap.size) 1 (.int .i64 f2.id) HS6.out.g.tag).setCell (w.heap.size) 2 (.string f2.s) HS6.out.g.tag).setCell (w.heap.size) 3 (.int .i64 f2.since) HS6.out.g.tag).setCell (w.heap.size) 4 (.bool fd2) HS6.out.g.tag) ((((HS6.out.fr.setNew (w.heap.size) 1 (.int .i64 f2.id) (Nat.le_refl _)).setNew (w.heap.size) 2 (.string f2.s) (Nat.le_refl _)).setNew (w.heap.size) 3 (.int .i64 f2.since) (Nat.le_refl _)).setNew (w.heap.size) 4 (.bool fd2) (Nat.le_refl _)) htB htq htd bG ((((HS6.out.c.other (w.heap.size) 1 (.int .i64 f2.id) (by omega)).other (w.heap.size) 2 (.string f2.s) (by omega)).other (w.heap.size) 3 (.int .i64 f2.since) (by omega)).other (w.heap.size) 4 (.bool fd2) (by omega)) ((((HS6.out.r.other (w.heap.size) 1 (.int .i64 f2.id) (by omega)).other (w.heap.size) 2 (.string f2.s) (by omega)).other (w.heap.size) 3 (.int .i64 f2.since) (by omega)).other (w.heap.size) 4 (.bool fd2) (by omega))
        rw [show d.length + 1 = (d ++ [f1]).length by simp] at S7
        have HS7 : Bx _ := ⟨S7⟩
        clear bG S7
        cases late2
        · obtain ⟨g8, S8⟩ := HS7.out.setB (k' := { k2 with dropping := false }) htd1 hblt 4 (.bool false) rfl (by omega) (fun j hj => by match j, hj with | 0, _ => rfl | 1, _ => rfl | 2, _ => rfl | 3, _ => rfl | 4, _ => rfl | 5, _ => rfl | 6, _ => rfl | 7, _ => rfl)
          have S9 := S8.below ((Below.refl _ _).alloc (Nat.le_refl _) (Obj.cells #[.int .i64 f2.id, .string f2.s, .int .i64 f2.since] 98))
          have HR : Bx (GoR own w _ tB tq td b ty N o n k.q.length f cL c now m R) := ⟨⟨own3, { k2 with dropping := false }, d ++ [f1], f2, fd2, g8, v4, some db, dk, S9, HHC.out rfl, ⟨HOKN.out.one, HOKN.out.si, HOKN.out.ab, HOKN.out.ab1, HOKN.out.nx, HOKN.out.cn, HOKN.out.la⟩, fun e => by simp at e, hF2, HQL.out⟩⟩
          clear S8 S9 HHG HHC HS7
          go_wp2_with fail
          go_roundg m
          case rel => exact HR.out
          case measure => omega
        · have HHG2 : Bx _ := ⟨HHG.out rfl⟩
          have HFD : Bx (fd2 = true) := ⟨HTI.out.late rfl⟩
          have S8 := HS7.out.below ((Below.refl _ _).alloc (Nat.le_refl _) (Obj.cells #[.int .i64 f2.id, .string f2.s, .int .i64 f2.since] 98))
          have HS8 : Bx _ := ⟨S8⟩
          clear S8 HS7 HHC HHG
          go_wp2_with fail
          generalize (((((w4.setCell ⟨w.heap.size, 1, none⟩ (.int .i64 f2.id)).setCell ⟨w.heap.size, 2, none⟩ (.string f2.s)).setCell ⟨w.heap.size, 3, none⟩ (.int .i64 f2.since)).setCell ⟨w.heap.size, 4, none⟩ (.bool fd2)).alloc (Obj.cells #[.int .i64 f2.id, .string f2.s, .int .i64 f2.since] 98)) = w5 at *
          clear q0 q1 q2 q3 q4 q5 qz p0 p1 p2 p3 p4 p5 p6 p7 p8 p9 pz r0 r1 r2 r3 r4 r5 rz l4 l5 l6 lz y0 y1 y2 y3
          have SC := HS8.out.c
          rw [HcL.out] at SC
          have p6 : w5.cell? ⟨w.heap.size + 1, 6, none⟩ = some (.int .i64 c.interval) := SC.cells 6 _ rfl
          have l5 : w5.cell? ⟨b, o + 5, none⟩ = some (.int .i64 k1.next) := (HS8.out.bk.cell 5 (by omega)).trans (by rw [← HC12.out.2]; rfl)
          have l6 : w5.cell? ⟨b, o + 6, none⟩ = some (.int .i64 ((k1.count : Int) + 1)) := (HS8.out.bk.cell 6 (by omega)).trans (by show some (Value.int .i64 (k2.count : Int)) = _; rw [HC12.out.1]; rfl)
          have lz := HS8.out.bk.row.row.frozen
          have y1 : w.heap.size + 1 < w5.heap.size := SC.lt
          have y3 : b < w5.heap.size := HS8.out.bk.row.row.lt
          clear SC
          go_region_with (go_at_call 89; refine (HO2.out _).mono ?_; rintro e w6 ⟨rfl, hb6⟩; have v5 : w6.cell? ⟨b, o + 5, none⟩ = some (.int .i64 k1.next) := (hb6.cell (p := ⟨b, o + 5, none⟩) (by simp; omega)).trans (by go_simp); have vz : ∀ i, w6.frozen? ⟨b, i, none⟩ = false := fun i => (hb6.frozen (p := ⟨b, i, none⟩) (by simp; omega)).trans (by go_simp))
          all_goals
            obtain ⟨g9, S9⟩ := ((HS8.out.below ((Below.refl _ _).drew)).below hb6).setB (k' := { k2 with next := k2.next + sp }) htd1 hblt 5 (.int .i64 ((k1.next : Int) + sp)) rfl (by omega) (fun j hj => by match j, hj with | 0, _ => rfl | 1, _ => rfl | 2, _ => rfl | 3, _ => rfl | 4, _ => rfl | 5, _ => rw [if_pos rfl, ← HC12.out.2]; simp [bkF] | 6, _ => rfl | 7, _ => rfl)
            have HR : Bx (GoR own w _ tB tq td b ty N o n k.q.length f cL c now m R) := ⟨⟨own3, { k2 with next := k2.next + sp }, d ++ [f1], f2, fd2, g9, v4, some db, dk, S9, HHG2.out, ⟨HOKN.out.one, HOKN.out.si, HOKN.out.ab, HOKN.out.ab1, by show k2.next + sp ≤ _; rw [HC12.out.2]; omega, HOKN.out.cn, HOKN.out.la⟩, fun _ => by
              have e2 := HFD.out
              have e1 : k1.q = f2 :: k2.q := HTI.out.yes e2
              have e3 : k1.q.length = k2.q.length + 1 := by rw [e1]; simp
              exact ⟨by show k2.count + k2.q.length + 1 ≤ n; rw [HC12.out.1]; omega, e2, by show k2.q.length < m; omega⟩, hF2, HQL.out⟩⟩
            clear S9 HHG2 HS8 hb6
            go_wp2_with fail
            go_roundg m
            case rel => exact HR.out
            case measure => omega
    · rw [goOnTo_stop c now _ k1 d f1 fd hgo] at hG
      subst hG
      cases hdr : k1.dropping
      · rw [hdr] at l4
        go_wp2_with fail
        refine bodyPost_ret (v := .agg #[.slice dx d.length dc, .int .i64 f1.id, .string f1.s, .int .i64 f1.since, .bool fd, .bool false]) (by simp [results, Try.results78, go_sem, r0, r1, r2, r3, r4, r5]) rfl ⟨own1, .slice dx d.length dc, rfl, HS.out.post (((((((Fr.refl (fun t => t = 0) own1 _).setCell (w.heap.size + 1 + 1) _ _ HS.out.r.tag).setCell (w.heap.size + 1 + 1) _ _ HS.out.r.tag).setCell (w.heap.size + 1 + 1) _ _ HS.out.r.tag).setCell (w.heap.size + 1 + 1) _ _ HS.out.r.tag).setCell (w.heap.size + 1 + 1) _ _ HS.out.r.tag).setCell (w.heap.size + 1 + 1) _ _ HS.out.r.tag) ((((((HS.out.fr.setNew (w.heap.size + 1 + 1) _ _ (by omega)).setNew (w.heap.size + 1 + 1) _ _ (by omega)).setNew (w.heap.size + 1 + 1) _ _ (by omega)).setNew (w.heap.size + 1 + 1) _ _ (by omega)).setNew (w.heap.size + 1 + 1) _ _ (by omega)).setNew (w.heap.size + 1 + 1) _ _ (by omega)) htB htq htd⟩
      · rw [hdr] at l4
        have j1 : ¬ (k1.next : Int) ≤ now := fun e => hgo ⟨hdr, by omega⟩
        obtain ⟨_, rfl, _⟩ := hrk hdr
        go_wp2_with fail
        refine bodyPost_ret (v := .agg #[.slice dx d.length dc, .int .i64 f1.id, .string f1.s, .int .i64 f1.since, .bool true, .bool false]) (by simp [results, Try.results78, go_sem, r0, r1, r2, r3, r4, r5]) rfl ⟨own1, .slice dx d.length dc, rfl, HS.out.post (((((((Fr.refl (fun t => t = 0) own1 _).setCell (w.heap.size + 1 + 1) _ _ HS.out.r.tag).setCell (w.heap.size + 1 + 1) _ _ HS.out.r.tag).setCell (w.heap.size + 1 + 1) _ _ HS.out.r.tag).setCell (w.heap.size + 1 + 1) _ _ HS.out.r.tag).setCell (w.heap.size + 1 + 1) _ _ HS.out.r.tag).setCell (w.heap.size + 1 + 1) _ _ HS.out.r.tag) ((((((HS.out.fr.setNew (w.heap.size + 1 + 1) _ _ (by omega)).setNew (w.heap.size + 1 + 1) _ _ (by omega)).setNew (w.heap.size + 1 + 1) _ _ (by omega)).setNew (w.heap.size + 1 + 1) _ _ (by omega)).setNew (w.heap.size + 1 + 1) _ _ (by omega)).setNew (w.heap.size + 1 + 1) _ _ (by omega)) htB htq htd⟩

end Go.Proofs.Ytnkicbopebgppab
