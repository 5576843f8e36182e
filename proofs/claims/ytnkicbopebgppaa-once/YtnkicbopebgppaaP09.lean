import Derived.Test.YtnkicbopebgppaaP08
import Derived.Test.YtnkicbopebgppaaP05
namespace Go.Proofs.Ytnkicbopebgppaa
open Go.RowKit Fl

theorem Pt.adopt_ok (p : Pt) (h : p.ok) (c : Cf) (hc : c.ok) (hk : p.c.keeps c) : Pt.ok { p with c := c, tn := p.tn.limitTo c.quantum 16 } := by
  have e1 : c.buckets = p.c.buckets := hk.1
  refine ⟨hc, h.now, fun i => ?_, ?_, ?_, h.up, h.ev, ?_⟩
  · have hb := h.bk i
    exact ⟨fun x hx => by have := hb.one x hx; rw [← hk.2.2] at this; exact this, hb.si, hb.ab, hb.ab1, hb.nx, hb.cn, hb.la⟩
  · show framesTo p.bk c.buckets ≤ 65
    rw [e1]; exact h.fr
  · show (p.tn.limitTo c.quantum 16).good c.buckets
    rw [e1]; exact p.tn.limit_good _ _ _ h.tn hc.q2
  · show p.done.length + framesTo p.bk c.buckets ≤ p.ids
    rw [e1]; exact h.dn

set_option maxRecDepth 100000 in
set_option maxHeartbeats 6400000 in
theorem pconfigure_any (own : Nat → Nat) (T te a : Nat) (p : Pt) (c : Cf) (w : World) (h : PtAt own w T a p) (ht : Tags T te) (hj : Junk own w) (hok : p.ok) (hid : p.ids ≤ 16777216) (hc : c.ok) (p' : Pt) (hp' : Bx (p.configure c = p')) :
    Calls Try.prog 20 #[.pointer (some ⟨a, 0, none⟩), c.val] w fun e w' => ∃ v', e = .returned (.tuple #[v', .int .i64 0]) ∧ EvPost own w w' T te a [] p p' v' := by
  have hbig := ht.big
  have hte2 := ht.te2
  have hout := ht.out
  have hb16 := hok.c.b2
  have HS : Bx _ := ⟨fun wx => sound_any c.cg wx true ⟨decide_eq_true (c.cg_sound hc)⟩⟩
  obtain ⟨r, Hr⟩ : ∃ r, Bx (decide (p.c.keeps c) = r) := ⟨_, ⟨rfl⟩⟩
  have HK : Bx _ := ⟨fun wx => keeps_any p.c c wx r Hr⟩
  have H : Bx _ := ⟨h⟩
  obtain ⟨g, fP, vF, vO, fB, vq, h⟩ := h
  have C : ∀ j, j < 10 → w.cell? ⟨a, j, none⟩ = some (cfF p.c j) := fun j hj => (h.cell j (by omega)).trans (by rw [h.cf j hj])
  have c0 : w.cell? ⟨a, 0, none⟩ = some (.int .i64 p.c.buckets) := C 0 (by omega)
  have c1 : w.cell? ⟨a, 1, none⟩ = some (.int .i64 p.c.quantum) := C 1 (by omega)
  have c2 : w.cell? ⟨a, 2, none⟩ = some (.int .i64 p.c.packets) := C 2 (by omega)
  have c3 : w.cell? ⟨a, 3, none⟩ = some (.int .i64 p.c.memory) := C 3 (by omega)
  have c4 : w.cell? ⟨a, 4, none⟩ = some (.int .i64 p.c.length) := C 4 (by omega)
  have c5 : w.cell? ⟨a, 5, none⟩ = some (.int .i64 p.c.target) := C 5 (by omega)
  have c6 : w.cell? ⟨a, 6, none⟩ = some (.int .i64 p.c.interval) := C 6 (by omega)
  have c7 : w.cell? ⟨a, 7, none⟩ = some (.int .i64 p.c.tau) := C 7 (by omega)
  have c8 : w.cell? ⟨a, 8, none⟩ = some (.bool p.c.ecn) := C 8 (by omega)
  have c9 : w.cell? ⟨a, 9, none⟩ = some (.string p.c.key) := C 9 (by omega)
  have hlt := h.lt
  clear h C
  simp only [Cg.val, Cf.val, Cf.cg] at *
  go_enter Try.func20, Try.ntmps20
  go_wp2_with fail
  refine (HS.out _).mono ?_
  rintro e w1 ⟨rfl, hb1⟩
  have d0 : w1.cell? ⟨a, 0, none⟩ = some (.int .i64 p.c.buckets) := (hb1.cell (p := ⟨a, 0, none⟩) (by simp; omega)).trans (by go_simp)
  have d1 : w1.cell? ⟨a, 1, none⟩ = some (.int .i64 p.c.quantum) := (hb1.cell (p := ⟨a, 1, none⟩) (by simp; omega)).trans (by go_simp)
  have d2 : w1.cell? ⟨a, 2, none⟩ = some (.int .i64 p.c.packets) := (hb1.cell (p := ⟨a, 2, none⟩) (by simp; omega)).trans (by go_simp)
  have d3 : w1.cell? ⟨a, 3, none⟩ = some (.int .i64 p.c.memory) := (hb1.cell (p := ⟨a, 3, none⟩) (by simp; omega)).trans (by go_simp)
  have d4 : w1.cell? ⟨a, 4, none⟩ = some (.int .i64 p.c.length) := (hb1.cell (p := ⟨a, 4, none⟩) (by simp; omega)).trans (by go_simp)
  have d5 : w1.cell? ⟨a, 5, none⟩ = some (.int .i64 p.c.target) := (hb1.cell (p := ⟨a, 5, none⟩) (by simp; omega)).trans (by go_simp)
  have d6 : w1.cell? ⟨a, 6, none⟩ = some (.int .i64 p.c.interval) := (hb1.cell (p := ⟨a, 6, none⟩) (by simp; omega)).trans (by go_simp)
  have d7 : w1.cell? ⟨a, 7, none⟩ = some (.int .i64 p.c.tau) := (hb1.cell (p := ⟨a, 7, none⟩) (by simp; omega)).trans (by go_simp)
  have d8 : w1.cell? ⟨a, 8, none⟩ = some (.bool p.c.ecn) := (hb1.cell (p := ⟨a, 8, none⟩) (by simp; omega)).trans (by go_simp)
  have d9 : w1.cell? ⟨a, 9, none⟩ = some (.string p.c.key) := (hb1.cell (p := ⟨a, 9, none⟩) (by simp; omega)).trans (by go_simp)
  have e0 : w1.cell? ⟨w.heap.size, 0, none⟩ = some (.int .i64 c.buckets) := (hb1.cell (p := ⟨w.heap.size, 0, none⟩) (by simp)).trans (by go_simp)
  have e1 : w1.cell? ⟨w.heap.size, 1, none⟩ = some (.int .i64 c.quantum) := (hb1.cell (p := ⟨w.heap.size, 1, none⟩) (by simp)).trans (by go_simp)
  have e2 : w1.cell? ⟨w.heap.size, 2, none⟩ = some (.int .i64 c.packets) := (hb1.cell (p := ⟨w.heap.size, 2, none⟩) (by simp)).trans (by go_simp)
  have e3 : w1.cell? ⟨w.heap.size, 3, none⟩ = some (.int .i64 c.memory) := (hb1.cell (p := ⟨w.heap.size, 3, none⟩) (by simp)).trans (by go_simp)
  have e4 : w1.cell? ⟨w.heap.size, 4, none⟩ = some (.int .i64 c.length) := (hb1.cell (p := ⟨w.heap.size, 4, none⟩) (by simp)).trans (by go_simp)
  have e5 : w1.cell? ⟨w.heap.size, 5, none⟩ = some (.int .i64 c.target) := (hb1.cell (p := ⟨w.heap.size, 5, none⟩) (by simp)).trans (by go_simp)
  have e6 : w1.cell? ⟨w.heap.size, 6, none⟩ = some (.int .i64 c.interval) := (hb1.cell (p := ⟨w.heap.size, 6, none⟩) (by simp)).trans (by go_simp)
  have e7 : w1.cell? ⟨w.heap.size, 7, none⟩ = some (.int .i64 c.tau) := (hb1.cell (p := ⟨w.heap.size, 7, none⟩) (by simp)).trans (by go_simp)
  have e8 : w1.cell? ⟨w.heap.size, 8, none⟩ = some (.bool c.ecn) := (hb1.cell (p := ⟨w.heap.size, 8, none⟩) (by simp)).trans (by go_simp)
  have e9 : w1.cell? ⟨w.heap.size, 9, none⟩ = some (.string c.key) := (hb1.cell (p := ⟨w.heap.size, 9, none⟩) (by simp)).trans (by go_simp)
  have hs1 := hb1.size
  simp at hs1
  have HB1 : Bx (Below w.heap.size w w1) := ⟨((Below.refl _ _).alloc (Nat.le_refl _) _).trans (hb1.mono (by simp))⟩
  clear hb1 HS
  go_wp2_with fail
  go_region_held3 (fun w' => w'.cell? ⟨a, 0, none⟩ = some (.int .i64 p.c.buckets) ∧ w'.cell? ⟨a, 1, none⟩ = some (.int .i64 p.c.quantum) ∧ w'.cell? ⟨a, 2, none⟩ = some (.int .i64 p.c.packets) ∧ w'.cell? ⟨a, 3, none⟩ = some (.int .i64 p.c.memory) ∧ w'.cell? ⟨a, 4, none⟩ = some (.int .i64 p.c.length) ∧ w'.cell? ⟨a, 5, none⟩ = some (.int .i64 p.c.target) ∧ w'.cell? ⟨a, 6, none⟩ = some (.int .i64 p.c.interval) ∧ w'.cell? ⟨a, 7, none⟩ = some (.int .i64 p.c.tau) ∧ w'.cell? ⟨a, 8, none⟩ = some (.bool p.c.ecn) ∧ w'.cell? ⟨a, 9, none⟩ = some (.string p.c.key) ∧ w'.cell? ⟨w.heap.size, 0, none⟩ = some (.int .i64 c.buckets) ∧ w'.cell? ⟨w.heap.size, 1, none⟩ = some (.int .i64 c.quantum) ∧ w'.cell? ⟨w.heap.size, 2, none⟩ = some (.int .i64 c.packets) ∧ w'.cell? ⟨w.heap.size, 3, none⟩ = some (.int .i64 c.memory) ∧ w'.cell? ⟨w.heap.size, 4, none⟩ = some (.int .i64 c.length) ∧ w'.cell? ⟨w.heap.size, 5, none⟩ = some (.int .i64 c.target) ∧ w'.cell? ⟨w.heap.size, 6, none⟩ = some (.int .i64 c.interval) ∧ w'.cell? ⟨w.heap.size, 7, none⟩ = some (.int .i64 c.tau) ∧ w'.cell? ⟨w.heap.size, 8, none⟩ = some (.bool c.ecn) ∧ w'.cell? ⟨w.heap.size, 9, none⟩ = some (.string c.key)) (go_keep) ((go_at_call 34; refine (HK.out _).mono ?_; rintro e w2 ⟨rfl, hb2⟩; have g0 : w2.cell? ⟨a, 0, none⟩ = some (.int .i64 p.c.buckets) := (hb2.cell (p := ⟨a, 0, none⟩) (by simp; omega)).trans (by go_simp); have g1 : w2.cell? ⟨a, 1, none⟩ = some (.int .i64 p.c.quantum) := (hb2.cell (p := ⟨a, 1, none⟩) (by simp; omega)).trans (by go_simp); have g2 : w2.cell? ⟨a, 2, none⟩ = some (.int .i64 p.c.packets) := (hb2.cell (p := ⟨a, 2, none⟩) (by simp; omega)).trans (by go_simp); have g3 : w2.cell? ⟨a, 3, none⟩ = some (.int .i64 p.c.memory) := (hb2.cell (p := ⟨a, 3, none⟩) (by simp; omega)).trans (by go_simp); have g4 : w2.cell? ⟨a, 4, none⟩ = some (.int .i64 p.c.length) := (hb2.cell (p := ⟨a, 4, none⟩) (by simp; omega)).trans (by go_simp); have g5 : w2.cell? ⟨a, 5, none⟩ = some (.int .i64 p.c.target) := (hb2.cell (p := ⟨a, 5, none⟩) (by simp; omega)).trans (by go_simp); have g6 : w2.cell? ⟨a, 6, none⟩ = some (.int .i64 p.c.interval) := (hb2.cell (p := ⟨a, 6, none⟩) (by simp; omega)).trans (by go_simp); have g7 : w2.cell? ⟨a, 7, none⟩ = some (.int .i64 p.c.tau) := (hb2.cell (p := ⟨a, 7, none⟩) (by simp; omega)).trans (by go_simp); have g8 : w2.cell? ⟨a, 8, none⟩ = some (.bool p.c.ecn) := (hb2.cell (p := ⟨a, 8, none⟩) (by simp; omega)).trans (by go_simp); have g9 : w2.cell? ⟨a, 9, none⟩ = some (.string p.c.key) := (hb2.cell (p := ⟨a, 9, none⟩) (by simp; omega)).trans (by go_simp); have f0 : w2.cell? ⟨w.heap.size, 0, none⟩ = some (.int .i64 c.buckets) := (hb2.cell (p := ⟨w.heap.size, 0, none⟩) (by simp; omega)).trans (by go_simp); have f1 : w2.cell? ⟨w.heap.size, 1, none⟩ = some (.int .i64 c.quantum) := (hb2.cell (p := ⟨w.heap.size, 1, none⟩) (by simp; omega)).trans (by go_simp); have f2 : w2.cell? ⟨w.heap.size, 2, none⟩ = some (.int .i64 c.packets) := (hb2.cell (p := ⟨w.heap.size, 2, none⟩) (by simp; omega)).trans (by go_simp); have f3 : w2.cell? ⟨w.heap.size, 3, none⟩ = some (.int .i64 c.memory) := (hb2.cell (p := ⟨w.heap.size, 3, none⟩) (by simp; omega)).trans (by go_simp); have f4 : w2.cell? ⟨w.heap.size, 4, none⟩ = some (.int .i64 c.length) := (hb2.cell (p := ⟨w.heap.size, 4, none⟩) (by simp; omega)).trans (by go_simp); have f5 : w2.cell? ⟨w.heap.size, 5, none⟩ = some (.int .i64 c.target) := (hb2.cell (p := ⟨w.heap.size, 5, none⟩) (by simp; omega)).trans (by go_simp); have f6 : w2.cell? ⟨w.heap.size, 6, none⟩ = some (.int .i64 c.interval) := (hb2.cell (p := ⟨w.heap.size, 6, none⟩) (by simp; omega)).trans (by go_simp); have f7 : w2.cell? ⟨w.heap.size, 7, none⟩ = some (.int .i64 c.tau) := (hb2.cell (p := ⟨w.heap.size, 7, none⟩) (by simp; omega)).trans (by go_simp); have f8 : w2.cell? ⟨w.heap.size, 8, none⟩ = some (.bool c.ecn) := (hb2.cell (p := ⟨w.heap.size, 8, none⟩) (by simp; omega)).trans (by go_simp); have f9 : w2.cell? ⟨w.heap.size, 9, none⟩ = some (.string c.key) := (hb2.cell (p := ⟨w.heap.size, 9, none⟩) (by simp; omega)).trans (by go_simp)))
  have hs2 := hb2.size
  simp at hs2
  have hB2 : Below w.heap.size w w2 := HB1.out.drew.trans (hb2.mono (by simp; omega))
  have hA2 : PtAt own w2 T a p := by
    obtain ⟨g, fP, vF, vO, fB, vq, h⟩ := H.out
    exact ⟨g, fP, vF, vO, fB, vq, h.below hB2 hb16⟩
  have hJ2 : Junk own w2 := (Fr.below (T := fun _ => False) hB2).junk hj
  have HB2 : Bx _ := ⟨hB2⟩
  clear hb2 HK g0 g1 g2 g3 g4 g5 g6 g7 g8 g9 c0 d0 e0 c1 d1 e1 c2 d2 e2 c3 d3 e3 c4 d4 e4 c5 d5 e5 c6 d6 e6 c7 d7 e7 c8 d8 e8 c9 d9 e9
  cases r
  · have hk : ¬ p.c.keeps c := of_decide_eq_false Hr.out
    have hpe : p.flush.renew c = p' := by rw [← hp'.out]; unfold Pt.configure; rw [if_neg hk]
    have HFL : Bx _ := ⟨pflush_any own T te a p w2 hA2 ht hJ2 hok hid⟩
    have HPE : Bx _ := ⟨hpe⟩
    clear hA2 hJ2 hk hpe H
    go_wp2_with fail
    refine HFL.out.mono ?_
    rintro e w3 ⟨v3, rfl, hP3⟩
    obtain ⟨own3, l, hd3, hA3, hS3, hN3, hF3⟩ := hP3.ex
    simp only [List.nil_append] at hS3 hN3
    have h00 : ¬ PTag T te (own w.heap.size) := by rw [hj _ (Nat.le_refl _)]; show ¬ ((T ≤ 0 ∧ 0 < T + 20) ∨ 0 = 1 ∨ 0 = te); omega
    have k0 : w3.cell? ⟨w.heap.size, 0, none⟩ = some (.int .i64 c.buckets) := (hF3.cell (b := w.heap.size) 0 (by omega) h00).trans f0
    have k1 : w3.cell? ⟨w.heap.size, 1, none⟩ = some (.int .i64 c.quantum) := (hF3.cell (b := w.heap.size) 1 (by omega) h00).trans f1
    have k2 : w3.cell? ⟨w.heap.size, 2, none⟩ = some (.int .i64 c.packets) := (hF3.cell (b := w.heap.size) 2 (by omega) h00).trans f2
    have k3 : w3.cell? ⟨w.heap.size, 3, none⟩ = some (.int .i64 c.memory) := (hF3.cell (b := w.heap.size) 3 (by omega) h00).trans f3
    have k4 : w3.cell? ⟨w.heap.size, 4, none⟩ = some (.int .i64 c.length) := (hF3.cell (b := w.heap.size) 4 (by omega) h00).trans f4
    have k5 : w3.cell? ⟨w.heap.size, 5, none⟩ = some (.int .i64 c.target) := (hF3.cell (b := w.heap.size) 5 (by omega) h00).trans f5
    have k6 : w3.cell? ⟨w.heap.size, 6, none⟩ = some (.int .i64 c.interval) := (hF3.cell (b := w.heap.size) 6 (by omega) h00).trans f6
    have k7 : w3.cell? ⟨w.heap.size, 7, none⟩ = some (.int .i64 c.tau) := (hF3.cell (b := w.heap.size) 7 (by omega) h00).trans f7
    have k8 : w3.cell? ⟨w.heap.size, 8, none⟩ = some (.bool c.ecn) := (hF3.cell (b := w.heap.size) 8 (by omega) h00).trans f8
    have k9 : w3.cell? ⟨w.heap.size, 9, none⟩ = some (.string c.key) := (hF3.cell (b := w.heap.size) 9 (by omega) h00).trans f9
    have HRN : Bx _ := ⟨prenew_any own3 T a p.flush c w3 hA3 hc⟩
    have H3 : Bx (p.flush.done = p.done ++ l ∧ Sl evG own3 w3 te 5 v3 l.length (evCells l) ∧ (l = [] → v3 = .slice none 0 0) ∧ Fr (PTag T te) own own3 w2 w3) := ⟨hd3, hS3, hN3, hF3⟩
    clear hP3 hA3 hS3 hN3 hF3 hd3 HFL f0 f1 f2 f3 f4 f5 f6 f7 f8 f9
    simp only [Cf.val] at HRN
    go_wp2_with fail
    refine HRN.out.mono ?_
    rintro e w4 ⟨rfl, own4, hA4, hF4⟩
    have HFin : Bx (EvPost own w w4 T te a [] p p' v3) := by
      rw [← HPE.out]
      exact ⟨⟨own4, l, H3.out.1, hA4, by simpa using H3.out.2.1.fr hF4 (by omega), by simpa using H3.out.2.2.1, ((Fr.below HB2.out).trans H3.out.2.2.2).trans (hF4.mono (fun t e => .inl (by omega)))⟩⟩
    clear hA4 hF4
    go_wp2_with fail
    go_ret2
    exact ⟨v3, rfl, HFin.out⟩
  · have hk : p.c.keeps c := of_decide_eq_true Hr.out
    obtain ⟨pa, Hpa⟩ : ∃ pa : Pt, Bx ({ p with c := c, tn := p.tn.limitTo c.quantum 16 } = pa) := ⟨_, ⟨rfl⟩⟩
    have hpe : pa.shed = p' := by rw [← hp'.out]; unfold Pt.configure; rw [if_pos hk, Hpa.out]
    have hoa := p.adopt_ok hok c hc hk
    rw [Hpa.out] at hoa
    have HAD := padopt_any own T a p c w2 hA2 hJ2 hbig hb16 hk.1
    rw [Hpa.out] at HAD
    have HADB : Bx _ := ⟨HAD⟩
    have hpd : pa.done = p.done := by rw [← Hpa.out]
    have hpi : pa.ids = p.ids := by rw [← Hpa.out]
    have HOA : Bx _ := ⟨hoa⟩
    have HPE : Bx _ := ⟨hpe⟩
    have HJ2 : Bx _ := ⟨hJ2⟩
    clear hA2 hJ2 hk hpe HAD hoa
    simp only [Cf.val] at HADB
    go_wp2_with fail
    refine HADB.out.mono ?_
    rintro e w3 ⟨rfl, hA3, hF3⟩
    have hfr := HOA.out.fr
    have HSH : Bx _ := ⟨pshed_any own T te a pa [] (.slice none 0 0) w3 hA3 ht (hF3.junk HJ2.out) HOA.out (by omega) (Sl.nil _ _ _ _ _) (fun _ => rfl) (by simp; omega) p' HPE⟩
    have HF3 : Bx (Fr (PTag T te) own own w w3) := ⟨(Fr.below HB2.out).trans (hF3.mono (fun t e => .inl (by omega)))⟩
    clear hA3 hF3 HADB
    go_wp2_with fail
    refine HSH.out.mono ?_
    rintro e w4 ⟨v4, rfl, hP4⟩
    have HFin : Bx (EvPost own w w4 T te a [] p p' v4) := by
      obtain ⟨own4, l, hd4, hA4, hS4, hN4, hF4⟩ := hP4.ex
      exact ⟨⟨own4, l, by rw [hd4, hpd], hA4, hS4, hN4, HF3.out.trans hF4⟩⟩
    clear hP4
    go_wp2_with fail
    go_ret2
    exact ⟨v4, rfl, HFin.out⟩

end Go.Proofs.Ytnkicbopebgppaa

namespace Go.Proofs.Ytnkicbopebgppaa
open Go.RowKit Fl

set_option maxHeartbeats 800000 in
theorem preset_no (a : Nat) (key : ByteArray) (w : World) (hk : key.size ≠ 16) :
    Calls Try.prog 22 #[.pointer (some ⟨a, 0, none⟩), .string key] w fun e w' => e = .returned (.tuple #[.slice none 0 0, .int .i64 1]) ∧ Below w.heap.size w w' := by
  have h0 : ((key.size : Int) != 16) = true := by simp; omega
  have h1 : ¬ (key.size : Int) = 16 := by omega
  go_enter Try.func22, Try.ntmps22
  go_wp2_with fail
  go_ret2
  exact ⟨rfl, Below.refl _ _⟩

/-- What a reset comes to. -/
structure RsPost (own : Nat → Nat) (w w' : World) (T te a : Nat) (p p' : Pt) (v' : Value) : Prop where
  ex : ∃ own', PtAt own' w' T a p' ∧ Sl evG own' w' te 5 v' (flushEv p.now p.bk p.c.buckets).length (evCells (flushEv p.now p.bk p.c.buckets)) ∧ (flushEv p.now p.bk p.c.buckets = [] → v' = .slice none 0 0) ∧ Fr (PTag T te) own own' w w'

set_option maxRecDepth 100000 in
set_option maxHeartbeats 6400000 in
theorem preset_any (own : Nat → Nat) (T te a : Nat) (p : Pt) (key : ByteArray) (w : World) (h : PtAt own w T a p) (ht : Tags T te) (hj : Junk own w) (hok : p.ok) (hid : p.ids ≤ 16777216) (hk : key.size = 16) :
    Calls Try.prog 22 #[.pointer (some ⟨a, 0, none⟩), .string key] w fun e w' => ∃ v', e = .returned (.tuple #[v', .int .i64 0]) ∧ RsPost own w w' T te a p (p.reset key) v' := by
  have hbig := ht.big
  have hte2 := ht.te2
  have hout := ht.out
  have hb16 := hok.c.b2
  have hc : Cf.ok { p.c with key := key } := ⟨hok.c.b1, hok.c.b2, hok.c.q1, hok.c.q2, hok.c.p1, hok.c.p2, hok.c.l1, hok.c.l2, hok.c.m1, hok.c.m2, hok.c.t1, hok.c.t2, hok.c.i2, hok.c.u1, hok.c.u2, hk⟩
  have H : Bx _ := ⟨h⟩
  obtain ⟨g, fP, vF, vO, fB, vq, h⟩ := h
  have C : ∀ j, j < 10 → w.cell? ⟨a, j, none⟩ = some (cfF p.c j) := fun j hj => (h.cell j (by omega)).trans (by rw [h.cf j hj])
  have c0 : w.cell? ⟨a, 0, none⟩ = some (.int .i64 p.c.buckets) := C 0 (by omega)
  have c1 : w.cell? ⟨a, 1, none⟩ = some (.int .i64 p.c.quantum) := C 1 (by omega)
  have c2 : w.cell? ⟨a, 2, none⟩ = some (.int .i64 p.c.packets) := C 2 (by omega)
  have c3 : w.cell? ⟨a, 3, none⟩ = some (.int .i64 p.c.memory) := C 3 (by omega)
  have c4 : w.cell? ⟨a, 4, none⟩ = some (.int .i64 p.c.length) := C 4 (by omega)
  have c5 : w.cell? ⟨a, 5, none⟩ = some (.int .i64 p.c.target) := C 5 (by omega)
  have c6 : w.cell? ⟨a, 6, none⟩ = some (.int .i64 p.c.interval) := C 6 (by omega)
  have c7 : w.cell? ⟨a, 7, none⟩ = some (.int .i64 p.c.tau) := C 7 (by omega)
  have c8 : w.cell? ⟨a, 8, none⟩ = some (.bool p.c.ecn) := C 8 (by omega)
  have c9 : w.cell? ⟨a, 9, none⟩ = some (.string p.c.key) := C 9 (by omega)
  have hlt := h.lt
  clear h C
  have h1 : (key.size : Int) = 16 := by omega
  have hbA : Below w.heap.size w (w.alloc (Obj.cells #[.int .i64 p.c.buckets, .int .i64 p.c.quantum, .int .i64 p.c.packets, .int .i64 p.c.memory, .int .i64 p.c.length, .int .i64 p.c.target, .int .i64 p.c.interval, .int .i64 p.c.tau, .bool p.c.ecn, .string key] 29)) := (Below.refl _ _).alloc (Nat.le_refl _) _
  have hA1 : PtAt own (w.alloc (Obj.cells #[.int .i64 p.c.buckets, .int .i64 p.c.quantum, .int .i64 p.c.packets, .int .i64 p.c.memory, .int .i64 p.c.length, .int .i64 p.c.target, .int .i64 p.c.interval, .int .i64 p.c.tau, .bool p.c.ecn, .string key] 29)) T a p := by
    obtain ⟨g, fP, vF, vO, fB, vq, h⟩ := H.out
    exact ⟨g, fP, vF, vO, fB, vq, h.below hbA hb16⟩
  have HFL : Bx _ := ⟨pflush_any own T te a p (w.alloc (Obj.cells #[.int .i64 p.c.buckets, .int .i64 p.c.quantum, .int .i64 p.c.packets, .int .i64 p.c.memory, .int .i64 p.c.length, .int .i64 p.c.target, .int .i64 p.c.interval, .int .i64 p.c.tau, .bool p.c.ecn, .string key] 29)) hA1 ht ((Fr.below (T := fun _ => False) hbA).junk hj) hok hid⟩
  have HBA : Bx _ := ⟨hbA⟩
  clear hA1 hbA
  go_enter Try.func22, Try.ntmps22
  go_wp2_with fail
  refine HFL.out.mono ?_
  rintro e w3 ⟨v3, rfl, hP3⟩
  obtain ⟨own3, l, hd3, hA3, hS3, hN3, hF3⟩ := hP3.ex
  simp only [List.nil_append] at hS3 hN3
  have hl : l = flushEv p.now p.bk p.c.buckets := by
    have e1 : p.flush.done = p.done ++ flushEv p.now p.bk p.c.buckets := rfl
    rw [e1] at hd3
    exact (List.append_cancel_left hd3).symm
  have h00 : ¬ PTag T te (own w.heap.size) := by rw [hj _ (Nat.le_refl _)]; show ¬ ((T ≤ 0 ∧ 0 < T + 20) ∨ 0 = 1 ∨ 0 = te); omega
  have k0 : w3.cell? ⟨w.heap.size, 0, none⟩ = some (.int .i64 p.c.buckets) := (hF3.cell (b := w.heap.size) 0 (by simp) h00).trans (by go_simp)
  have k1 : w3.cell? ⟨w.heap.size, 1, none⟩ = some (.int .i64 p.c.quantum) := (hF3.cell (b := w.heap.size) 1 (by simp) h00).trans (by go_simp)
  have k2 : w3.cell? ⟨w.heap.size, 2, none⟩ = some (.int .i64 p.c.packets) := (hF3.cell (b := w.heap.size) 2 (by simp) h00).trans (by go_simp)
  have k3 : w3.cell? ⟨w.heap.size, 3, none⟩ = some (.int .i64 p.c.memory) := (hF3.cell (b := w.heap.size) 3 (by simp) h00).trans (by go_simp)
  have k4 : w3.cell? ⟨w.heap.size, 4, none⟩ = some (.int .i64 p.c.length) := (hF3.cell (b := w.heap.size) 4 (by simp) h00).trans (by go_simp)
  have k5 : w3.cell? ⟨w.heap.size, 5, none⟩ = some (.int .i64 p.c.target) := (hF3.cell (b := w.heap.size) 5 (by simp) h00).trans (by go_simp)
  have k6 : w3.cell? ⟨w.heap.size, 6, none⟩ = some (.int .i64 p.c.interval) := (hF3.cell (b := w.heap.size) 6 (by simp) h00).trans (by go_simp)
  have k7 : w3.cell? ⟨w.heap.size, 7, none⟩ = some (.int .i64 p.c.tau) := (hF3.cell (b := w.heap.size) 7 (by simp) h00).trans (by go_simp)
  have k8 : w3.cell? ⟨w.heap.size, 8, none⟩ = some (.bool p.c.ecn) := (hF3.cell (b := w.heap.size) 8 (by simp) h00).trans (by go_simp)
  have k9 : w3.cell? ⟨w.heap.size, 9, none⟩ = some (.string key) := (hF3.cell (b := w.heap.size) 9 (by simp) h00).trans (by go_simp)
  have HRN : Bx _ := ⟨prenew_any own3 T a p.flush { p.c with key := key } w3 hA3 hc⟩
  rw [hl] at hS3 hN3
  have H3 : Bx (Sl evG own3 w3 te 5 v3 (flushEv p.now p.bk p.c.buckets).length (evCells (flushEv p.now p.bk p.c.buckets)) ∧ (flushEv p.now p.bk p.c.buckets = [] → v3 = .slice none 0 0) ∧ Fr (PTag T te) own own3 w w3) := ⟨hS3, hN3, (Fr.below HBA.out).trans hF3⟩
  clear hP3 hA3 hS3 hN3 hF3 hd3 HFL c0 c1 c2 c3 c4 c5 c6 c7 c8 c9 hl
  simp only [Cf.val] at HRN
  go_wp2_with fail
  refine HRN.out.mono ?_
  rintro e w4 ⟨rfl, own4, hA4, hF4⟩
  have HCA : Bx _ := ⟨pcountAnew_any own4 T a _ _ w4 hA4⟩
  have H4 : Bx (Sl evG own4 w4 te 5 v3 (flushEv p.now p.bk p.c.buckets).length (evCells (flushEv p.now p.bk p.c.buckets)) ∧ Fr (PTag T te) own own4 w w4) := ⟨H3.out.1.fr hF4 (by omega), H3.out.2.2.trans (hF4.mono (fun t e => .inl (by omega)))⟩
  clear hA4 hF4 HRN
  go_wp2_with fail
  refine HCA.out.mono ?_
  rintro e w5 ⟨rfl, hP5⟩
  have HFin : Bx (RsPost own w w5 T te a p (p.reset key) v3) := by
    refine ⟨⟨own4, ?_, H4.out.1.fr hP5.fr (by omega), H3.out.2.1, H4.out.2.trans (hP5.fr.mono (fun t e => .inl (by omega)))⟩⟩
    obtain ⟨g, fP, vF, vO, fB, vq, h⟩ := hP5.pt
    refine ⟨g, fP, vF, vO, fB, vq, ⟨h.tn, h.cf, h.c10, h.c11, h.c12, h.c13, fun i hi => (h.cnt i hi).trans ?_, h.bk⟩⟩
    match i, hi with | 0, _ => rfl | 1, _ => rfl | 2, _ => rfl | 3, _ => rfl | 4, _ => rfl | 5, _ => rfl | 6, _ => rfl
  clear hP5 HCA
  go_wp2_with fail
  go_ret2
  exact ⟨v3, rfl, HFin.out⟩

end Go.Proofs.Ytnkicbopebgppaa

namespace Go.Proofs.Ytnkicbopebgppaa
open Go.RowKit Fl

set_option maxRecDepth 100000 in
set_option maxHeartbeats 3200000 in
theorem pnew_no (c : Cg) (w : World) (hc : ¬ c.sound) :
    Calls Try.prog 14 #[c.val] w fun e w' => e = .returned (.tuple #[.pointer none, .int .i64 1]) ∧ Below w.heap.size w w' := by
  have HS : Bx _ := ⟨fun wx => sound_any c wx false ⟨decide_eq_false hc⟩⟩
  clear hc
  simp only [Cg.val] at *
  go_enter Try.func14, Try.ntmps14
  go_wp2_with fail
  refine (HS.out _).mono ?_
  rintro e w1 ⟨rfl, hb1⟩
  have HB : Bx _ := ⟨hb1⟩
  clear hb1
  go_wp2_with fail
  go_ret2
  exact ⟨rfl, ((Below.refl _ _).alloc (Nat.le_refl _) _).trans (HB.out.mono (by simp))⟩

/-- A new port's cells. -/
def newF (c : Cf) (g : Nat) : Nat → Value := fun j =>
  if j < 10 then cfF c j else if j = 11 then .bool false else if j = 13 then .slice (some ⟨g, 0, none⟩) c.buckets c.buckets else if j = 14 then .slice none 0 0 else if j = 15 then .slice none 0 0 else if 16 ≤ j ∧ j < 32 then .bool false else .int .i64 0

set_option maxRecDepth 100000 in
set_option maxHeartbeats 6400000 in
theorem pnew_any (own : Nat → Nat) (T : Nat) (c : Cf) (w : World) (hc : c.ok) :
    Calls Try.prog 14 #[c.val] w fun e w' => ∃ own' a, e = .returned (.tuple #[.pointer (some ⟨a, 0, none⟩), .int .i64 0]) ∧ PtAt own' w' T a (Pt.made c) ∧ Fr (fun _ => False) own own' w w' := by
  have HS : Bx _ := ⟨fun wx => sound_any c.cg wx true ⟨decide_eq_true (c.cg_sound hc)⟩⟩
  have hb16 := hc.b2
  have hmk := make_buckets c.buckets hb16
  simp only [Cg.val, Cf.val, Cf.cg] at *
  go_enter Try.func14, Try.ntmps14
  go_wp2_with fail
  refine (HS.out _).mono ?_
  rintro e w1 ⟨rfl, hb1⟩
  have e0 : w1.cell? ⟨w.heap.size, 0, none⟩ = some (.int .i64 c.buckets) := (hb1.cell (p := ⟨w.heap.size, 0, none⟩) (by simp)).trans (by go_simp)
  have e1 : w1.cell? ⟨w.heap.size, 1, none⟩ = some (.int .i64 c.quantum) := (hb1.cell (p := ⟨w.heap.size, 1, none⟩) (by simp)).trans (by go_simp)
  have e2 : w1.cell? ⟨w.heap.size, 2, none⟩ = some (.int .i64 c.packets) := (hb1.cell (p := ⟨w.heap.size, 2, none⟩) (by simp)).trans (by go_simp)
  have e3 : w1.cell? ⟨w.heap.size, 3, none⟩ = some (.int .i64 c.memory) := (hb1.cell (p := ⟨w.heap.size, 3, none⟩) (by simp)).trans (by go_simp)
  have e4 : w1.cell? ⟨w.heap.size, 4, none⟩ = some (.int .i64 c.length) := (hb1.cell (p := ⟨w.heap.size, 4, none⟩) (by simp)).trans (by go_simp)
  have e5 : w1.cell? ⟨w.heap.size, 5, none⟩ = some (.int .i64 c.target) := (hb1.cell (p := ⟨w.heap.size, 5, none⟩) (by simp)).trans (by go_simp)
  have e6 : w1.cell? ⟨w.heap.size, 6, none⟩ = some (.int .i64 c.interval) := (hb1.cell (p := ⟨w.heap.size, 6, none⟩) (by simp)).trans (by go_simp)
  have e7 : w1.cell? ⟨w.heap.size, 7, none⟩ = some (.int .i64 c.tau) := (hb1.cell (p := ⟨w.heap.size, 7, none⟩) (by simp)).trans (by go_simp)
  have e8 : w1.cell? ⟨w.heap.size, 8, none⟩ = some (.bool c.ecn) := (hb1.cell (p := ⟨w.heap.size, 8, none⟩) (by simp)).trans (by go_simp)
  have e9 : w1.cell? ⟨w.heap.size, 9, none⟩ = some (.string c.key) := (hb1.cell (p := ⟨w.heap.size, 9, none⟩) (by simp)).trans (by go_simp)
  have hs1 := hb1.size
  simp at hs1
  have y0 : w.heap.size < w1.heap.size := by omega
  have y1 : ¬ w1.heap.size = w.heap.size := by omega
  have y2 : ¬ w.heap.size = w1.heap.size := by omega
  have HB1 : Bx (Below w.heap.size w w1) := ⟨((Below.refl _ _).alloc (Nat.le_refl _) _).trans (hb1.mono (by simp))⟩
  clear hb1 HS
  go_wp2_with fail
  go_region_held3 (fun w' => w'.cell? ⟨w.heap.size, 0, none⟩ = some (.int .i64 c.buckets) ∧ w'.cell? ⟨w.heap.size, 1, none⟩ = some (.int .i64 c.quantum) ∧ w'.cell? ⟨w.heap.size, 2, none⟩ = some (.int .i64 c.packets) ∧ w'.cell? ⟨w.heap.size, 3, none⟩ = some (.int .i64 c.memory) ∧ w'.cell? ⟨w.heap.size, 4, none⟩ = some (.int .i64 c.length) ∧ w'.cell? ⟨w.heap.size, 5, none⟩ = some (.int .i64 c.target) ∧ w'.cell? ⟨w.heap.size, 6, none⟩ = some (.int .i64 c.interval) ∧ w'.cell? ⟨w.heap.size, 7, none⟩ = some (.int .i64 c.tau) ∧ w'.cell? ⟨w.heap.size, 8, none⟩ = some (.bool c.ecn) ∧ w'.cell? ⟨w.heap.size, 9, none⟩ = some (.string c.key)) (first | go_simp | go_keep) (fail)
  go_wp2_with fail
  go_ret2
  have hF1 : Fr (fun _ => False) own own w w1 := Fr.below HB1.out
  have hF2 := Fr.allocTag (fun _ => False) own w1 (Obj.cells (madeCells #[.slice none 0 0, .int .i64 0, .bool false, .int .i64 0, .bool false, .int .i64 0, .int .i64 0, .int .i64 0] (c.buckets * 8)) 95) (T + 1)
  have hF3 := Fr.allocTag (fun _ => False) (upd own w1.heap.size (T + 1)) (w1.alloc (Obj.cells (madeCells #[.slice none 0 0, .int .i64 0, .bool false, .int .i64 0, .bool false, .int .i64 0, .int .i64 0, .int .i64 0] (c.buckets * 8)) 95)) (Obj.cells #[.int .i64 c.buckets, .int .i64 c.quantum, .int .i64 c.packets, .int .i64 c.memory, .int .i64 c.length, .int .i64 c.target, .int .i64 c.interval, .int .i64 c.tau, .bool c.ecn, .string c.key, .int .i64 0, .bool false, .int .i64 0, .slice (some ⟨w1.heap.size, 0, none⟩) c.buckets c.buckets, .slice none 0 0, .slice none 0 0, .bool false, .bool false, .bool false, .bool false, .bool false, .bool false, .bool false, .bool false, .bool false, .bool false, .bool false, .bool false, .bool false, .bool false, .bool false, .bool false, .int .i64 0, .int .i64 0, .int .i64 0, .int .i64 0, .int .i64 0, .int .i64 0, .int .i64 0, .int .i64 0, .int .i64 0, .int .i64 0, .int .i64 0, .int .i64 0, .int .i64 0, .int .i64 0, .int .i64 0, .int .i64 0, .int .i64 0, .int .i64 0, .int .i64 0, .int .i64 0, .int .i64 0, .int .i64 0, .int .i64 0] 63) T
  have hrow0 : Row (upd own w1.heap.size (T + 1)) (w1.alloc (Obj.cells (madeCells #[.slice none 0 0, .int .i64 0, .bool false, .int .i64 0, .bool false, .int .i64 0, .int .i64 0, .int .i64 0] (c.buckets * 8)) 95)) (T + 1) w1.heap.size 95 (c.buckets * 8) bkZ := ⟨upd_same _ _ _, rowIs_made8 _ _ _⟩
  have hrow := (hrow0.fr hF3 id).below ((Below.refl _ _).drew)
  have hs2 : (w1.alloc (Obj.cells (madeCells #[.slice none 0 0, .int .i64 0, .bool false, .int .i64 0, .bool false, .int .i64 0, .int .i64 0, .int .i64 0] (c.buckets * 8)) 95)).heap.size = w1.heap.size + 1 := by simp
  have hP0 : Row (upd (upd own w1.heap.size (T + 1)) (w1.alloc (Obj.cells (madeCells #[.slice none 0 0, .int .i64 0, .bool false, .int .i64 0, .bool false, .int .i64 0, .int .i64 0, .int .i64 0] (c.buckets * 8)) 95)).heap.size T) ((w1.alloc (Obj.cells (madeCells #[.slice none 0 0, .int .i64 0, .bool false, .int .i64 0, .bool false, .int .i64 0, .int .i64 0, .int .i64 0] (c.buckets * 8)) 95)).alloc (Obj.cells #[.int .i64 c.buckets, .int .i64 c.quantum, .int .i64 c.packets, .int .i64 c.memory, .int .i64 c.length, .int .i64 c.target, .int .i64 c.interval, .int .i64 c.tau, .bool c.ecn, .string c.key, .int .i64 0, .bool false, .int .i64 0, .slice (some ⟨w1.heap.size, 0, none⟩) c.buckets c.buckets, .slice none 0 0, .slice none 0 0, .bool false, .bool false, .bool false, .bool false, .bool false, .bool false, .bool false, .bool false, .bool false, .bool false, .bool false, .bool false, .bool false, .bool false, .bool false, .bool false, .int .i64 0, .int .i64 0, .int .i64 0, .int .i64 0, .int .i64 0, .int .i64 0, .int .i64 0, .int .i64 0, .int .i64 0, .int .i64 0, .int .i64 0, .int .i64 0, .int .i64 0, .int .i64 0, .int .i64 0, .int .i64 0, .int .i64 0, .int .i64 0, .int .i64 0, .int .i64 0, .int .i64 0, .int .i64 0, .int .i64 0] 63)) T (w1.alloc (Obj.cells (madeCells #[.slice none 0 0, .int .i64 0, .bool false, .int .i64 0, .bool false, .int .i64 0, .int .i64 0, .int .i64 0] (c.buckets * 8)) 95)).heap.size 63 55 (newF c w1.heap.size) := ⟨upd_same _ _ _, World.rowIs_alloc _ _ _ _ (fun i hi => by
    have hi' : i < 55 := hi
    match i, hi' with | 0, _ => rfl | 1, _ => rfl | 2, _ => rfl | 3, _ => rfl | 4, _ => rfl | 5, _ => rfl | 6, _ => rfl | 7, _ => rfl | 8, _ => rfl | 9, _ => rfl | 10, _ => rfl | 11, _ => rfl | 12, _ => rfl | 13, _ => rfl | 14, _ => rfl | 15, _ => rfl | 16, _ => rfl | 17, _ => rfl | 18, _ => rfl | 19, _ => rfl | 20, _ => rfl | 21, _ => rfl | 22, _ => rfl | 23, _ => rfl | 24, _ => rfl | 25, _ => rfl | 26, _ => rfl | 27, _ => rfl | 28, _ => rfl | 29, _ => rfl | 30, _ => rfl | 31, _ => rfl | 32, _ => rfl | 33, _ => rfl | 34, _ => rfl | 35, _ => rfl | 36, _ => rfl | 37, _ => rfl | 38, _ => rfl | 39, _ => rfl | 40, _ => rfl | 41, _ => rfl | 42, _ => rfl | 43, _ => rfl | 44, _ => rfl | 45, _ => rfl | 46, _ => rfl | 47, _ => rfl | 48, _ => rfl | 49, _ => rfl | 50, _ => rfl | 51, _ => rfl | 52, _ => rfl | 53, _ => rfl | 54, _ => rfl | n + 55, hi => exact absurd hi (by omega))⟩
  have hP := hP0.below ((Below.refl _ _).drew)
  rw [hs2] at hP hrow hF3
  refine ⟨_, w1.heap.size + 1, rfl, ⟨w1.heap.size, newF c w1.heap.size, .slice none 0 0, .slice none 0 0, bkZ, fun _ => .slice none 0 0, ⟨⟨hP, by omega, rfl, rfl, ?_, ?_, Sl.nil _ _ _ _ _, Sl.nil _ _ _ _ _, by omega, by omega, by omega, by simp [Pt.made, newTn], by simp [Pt.made, newTn], by simp [Pt.made, newTn], by simp [Pt.made, newTn]⟩, ?_, rfl, rfl, rfl, rfl, ?_, fun i hi => newBk_at _ _ _ _ _ _ hrow hi⟩⟩, ((hF1.trans hF2).trans hF3).drew⟩
  · intro i hi
    match i, hi with | 0, _ => rfl | 1, _ => rfl | 2, _ => rfl | 3, _ => rfl | 4, _ => rfl | 5, _ => rfl | 6, _ => rfl | 7, _ => rfl | 8, _ => rfl | 9, _ => rfl | 10, _ => rfl | 11, _ => rfl | 12, _ => rfl | 13, _ => rfl | 14, _ => rfl | 15, _ => rfl | n + 16, hi => exact absurd hi (by omega)
  · intro i hi
    match i, hi with | 0, _ => rfl | 1, _ => rfl | 2, _ => rfl | 3, _ => rfl | 4, _ => rfl | 5, _ => rfl | 6, _ => rfl | 7, _ => rfl | 8, _ => rfl | 9, _ => rfl | 10, _ => rfl | 11, _ => rfl | 12, _ => rfl | 13, _ => rfl | 14, _ => rfl | 15, _ => rfl | n + 16, hi => exact absurd hi (by omega)
  · intro i hi
    match i, hi with | 0, _ => rfl | 1, _ => rfl | 2, _ => rfl | 3, _ => rfl | 4, _ => rfl | 5, _ => rfl | 6, _ => rfl | 7, _ => rfl | 8, _ => rfl | 9, _ => rfl
  · intro i hi
    match i, hi with | 0, _ => rfl | 1, _ => rfl | 2, _ => rfl | 3, _ => rfl | 4, _ => rfl | 5, _ => rfl | 6, _ => rfl

end Go.Proofs.Ytnkicbopebgppaa

/-! The book that is kept of a port: what it holds, what an event does to it, what an event must be. -/
namespace Go.Proofs.Ytnkicbopebgppaa
open Fl

/-- A frame in the book. -/
structure Fq where
  s : ByteArray
  at_ : Nat
  able : Bool
  gone : Bool
  first : Int
  soon : Int

/-- Of two buckets. -/
structure Pr where
  on : Bool
  least : Int
  most : Int

structure Bo where
  on : Cf
  f : List Fq
  here : List Nat
  till : Nat
  old : Bool
  when_ : Nat
  last : Nat → Int
  sent : Nat → Nat
  turn : Nat → Nat
  used : Nat → Bool
  size : Nat → Nat
  left : Nat → Nat
  over : Nat → Bool
  pairs : Nat → Pr

def setAt {α : Type} (g : Nat → α) (i : Nat) (v : α) : Nat → α := fun j => if j = i then v else g j

theorem setAt_same {α : Type} (g : Nat → α) (i : Nat) (v : α) : setAt g i v i = v := if_pos rfl
theorem setAt_other {α : Type} (g : Nat → α) (i : Nat) (v : α) (j : Nat) (h : j ≠ i) : setAt g i v j = g j := if_neg h

def noFq : Fq := ⟨⟨#[]⟩, 0, false, false, -1, -1⟩
def frAt (f : List Fq) (id : Nat) : Fq := f.getD id noFq
def Bo.fr (b : Bo) (id : Nat) : Fq := frAt b.f id

theorem frAt_set_same (f : List Fq) (i : Nat) (v : Fq) (h : i < f.length) : frAt (f.set i v) i = v := by
  simp [frAt, List.getD, h]
theorem frAt_set_other (f : List Fq) (i j : Nat) (v : Fq) (h : j ≠ i) : frAt (f.set i v) j = frAt f j := by
  simp [frAt, List.getD, Ne.symm h]
theorem frAt_snoc_old (f : List Fq) (v : Fq) (j : Nat) (h : j < f.length) : frAt (f ++ [v]) j = frAt f j := by
  simp [frAt, List.getD, List.getElem?_append_left h]
theorem frAt_snoc_new (f : List Fq) (v : Fq) : frAt (f ++ [v]) f.length = v := by
  simp [frAt, List.getD]

/-- What the book does with every event. -/
def Bo.goes (b : Bo) (e : Ev) : Bo :=
  { b with
    f := b.f.set e.id { b.fr e.id with gone := true }
    when_ := e.time
    last := setAt b.last e.b (e.id : Int)
    size := setAt b.size e.b (b.size e.b - (b.fr e.id).s.size)
    left := setAt b.left e.b (b.left e.b + (b.fr e.id).s.size) }

def Bo.sends (b : Bo) (e : Ev) (n : Nat) : Bo :=
  { b with
    till := e.time + n * b.on.tau
    old := false
    sent := setAt b.sent e.b (b.sent e.b + n)
    turn := setAt b.turn e.b (b.turn e.b + n) }

def Bo.event (b : Bo) (e : Ev) : Bo :=
  if e.kind = 1 ∨ e.kind = 2 then (b.goes e).sends e (b.fr e.id).s.size
  else if e.kind = 3 then { b.goes e with over := setAt b.over e.b true }
  else b.goes e

def Bo.events (b : Bo) (l : List Ev) : Bo := l.foldl Bo.event b

/-- What an event must be: hd tells which of the statements is held. -/
structure EvOk (hd now : Nat) (b : Bo) (e : Ev) : Prop where
  id : e.id < b.f.length
  lo : b.when_ ≤ e.time
  hi : e.time ≤ now
  bu : e.b < b.on.buckets
  kd : 1 ≤ e.kind ∧ e.kind ≤ 5
  gone : (b.fr e.id).gone = false
  last : b.last e.b < e.id
  sz : e.s.size = (b.fr e.id).s.size
  fit : (b.fr e.id).s.size ≤ b.size e.b
  since : (b.fr e.id).at_ ≤ e.time
  small : (b.fr e.id).s.size ≤ 200
  soon : hd = 64 → (b.fr e.id).soon < 0 ∨ (e.time : Int) ≤ (b.fr e.id).soon
  link : hd = 4 → e.kind ≤ 2 → b.till ≤ e.time
  sparse : hd = 16 → e.kind ≤ 2 → (b.fr e.id).first < 0 ∨ (e.time : Int) ≤ (b.fr e.id).first
  once : hd = 1 → e.kind ≠ 2 → e.s = (b.fr e.id).s
  marked : hd = 1 → e.kind = 2 → canB (b.fr e.id).s = true ∧ e.s = markOf (b.fr e.id).s
  delay2 : hd = 8 → e.kind = 2 → b.on.ecn = true ∧ (b.fr e.id).at_ + b.on.target ≤ e.time ∧ (b.fr e.id).first < 0
  delay4 : hd = 8 → e.kind = 4 → (b.fr e.id).at_ + b.on.target ≤ e.time ∧ (b.fr e.id).first < 0 ∧ ¬ (b.on.ecn = true ∧ (b.fr e.id).able = true)

def EvsOk (hd now : Nat) : Bo → List Ev → Prop
  | _, [] => True
  | b, e :: l => EvOk hd now b e ∧ EvsOk hd now (b.event e) l

theorem Bo.events_nil (b : Bo) : b.events [] = b := rfl
theorem Bo.events_cons (b : Bo) (e : Ev) (l : List Ev) : b.events (e :: l) = (b.event e).events l := rfl
theorem Bo.events_append (b : Bo) (l m : List Ev) : b.events (l ++ m) = (b.events l).events m := by
  simp [Bo.events, List.foldl_append]

theorem EvsOk.append {hd now : Nat} {l m : List Ev} : ∀ {b : Bo}, EvsOk hd now b l → EvsOk hd now (b.events l) m → EvsOk hd now b (l ++ m) := by
  induction l with
  | nil => intro b _ h; exact h
  | cons e l ih => intro b h1 h2; exact ⟨h1.1, ih h1.2 h2⟩

theorem EvOk.later {hd now now' : Nat} {b : Bo} {e : Ev} (h : EvOk hd now b e) (hn : now ≤ now') : EvOk hd now' b e :=
  ⟨h.id, h.lo, Nat.le_trans h.hi hn, h.bu, h.kd, h.gone, h.last, h.sz, h.fit, h.since, h.small, h.soon, h.link, h.sparse, h.once, h.marked, h.delay2, h.delay4⟩
theorem EvsOk.later {hd now now' : Nat} {l : List Ev} (hn : now ≤ now') : ∀ {b : Bo}, EvsOk hd now b l → EvsOk hd now' b l := by
  induction l with
  | nil => intro b h; exact h
  | cons e l ih => intro b h; exact ⟨h.1.later hn, ih h.2⟩

/-- What the book keeps of an event, whatever its kind. -/
structure EvKeeps (b b' : Bo) (e : Ev) : Prop where
  on : b'.on = b.on
  f : b'.f = b.f.set e.id { b.fr e.id with gone := true }
  here : b'.here = b.here
  when_ : b'.when_ = e.time
  last : b'.last = setAt b.last e.b (e.id : Int)
  size : b'.size = setAt b.size e.b (b.size e.b - (b.fr e.id).s.size)
  left : b'.left = setAt b.left e.b (b.left e.b + (b.fr e.id).s.size)
  used : b'.used = b.used
  pairs : b'.pairs = b.pairs

theorem Bo.event_keeps (b : Bo) (e : Ev) : EvKeeps b (b.event e) e := by
  unfold Bo.event
  split
  · exact ⟨rfl, rfl, rfl, rfl, rfl, rfl, rfl, rfl, rfl⟩
  · split
    · exact ⟨rfl, rfl, rfl, rfl, rfl, rfl, rfl, rfl, rfl⟩
    · exact ⟨rfl, rfl, rfl, rfl, rfl, rfl, rfl, rfl, rfl⟩

theorem Bo.event_send (b : Bo) (e : Ev) (h : e.kind = 1 ∨ e.kind = 2) :
    (b.event e).till = e.time + (b.fr e.id).s.size * b.on.tau ∧ (b.event e).old = false ∧ (b.event e).sent = setAt b.sent e.b (b.sent e.b + (b.fr e.id).s.size) ∧ (b.event e).turn = setAt b.turn e.b (b.turn e.b + (b.fr e.id).s.size) ∧ (b.event e).over = b.over := by
  unfold Bo.event
  rw [if_pos h]
  exact ⟨rfl, rfl, rfl, rfl, rfl⟩

theorem Bo.event_drop (b : Bo) (e : Ev) (h : 3 ≤ e.kind) :
    (b.event e).till = b.till ∧ (b.event e).old = b.old ∧ (b.event e).sent = b.sent ∧ (b.event e).turn = b.turn ∧ (b.event e).over = if e.kind = 3 then setAt b.over e.b true else b.over := by
  unfold Bo.event
  rw [if_neg (by omega)]
  split
  · exact ⟨rfl, rfl, rfl, rfl, rfl⟩
  · exact ⟨rfl, rfl, rfl, rfl, rfl⟩

end Go.Proofs.Ytnkicbopebgppaa

/-! What book and port have in common: their frames. -/
namespace Go.Proofs.Ytnkicbopebgppaa
open Fl

def framesQ (q : Nat → List Fm) : Nat → Nat
  | 0 => 0
  | n + 1 => framesQ q n + (q n).length

theorem framesQ_set (q : Nat → List Fm) (i : Nat) (r : List Fm) : ∀ n, (n ≤ i → framesQ (setAt q i r) n = framesQ q n) ∧ (i < n → framesQ (setAt q i r) n + (q i).length = framesQ q n + r.length)
  | 0 => ⟨fun _ => rfl, fun h => by omega⟩
  | n + 1 => by
    obtain ⟨h1, h2⟩ := framesQ_set q i r n
    constructor
    · intro h
      show framesQ (setAt q i r) n + (setAt q i r n).length = framesQ q n + (q n).length
      rw [h1 (by omega), setAt_other _ _ _ _ (by omega)]
    · intro h
      show framesQ (setAt q i r) n + (setAt q i r n).length + _ = framesQ q n + (q n).length + _
      by_cases e : n = i
      · subst e
        rw [h1 (Nat.le_refl _), setAt_same]; omega
      · have := h2 (by omega)
        rw [setAt_other _ _ _ _ e]; omega

theorem framesQ_zero (q : Nat → List Fm) : ∀ n, framesQ q n = 0 → ∀ i, i < n → q i = []
  | 0, _, i, h => by omega
  | n + 1, h, i, hi => by
    have h' : framesQ q n + (q n).length = 0 := h
    by_cases e : i = n
    · subst e; exact List.eq_nil_of_length_eq_zero (by omega)
    · exact framesQ_zero q n (by omega) i (by omega)

theorem framesQ_none (q : Nat → List Fm) : ∀ n, (∀ i, i < n → q i = []) → framesQ q n = 0
  | 0, _ => rfl
  | n + 1, h => by
    show framesQ q n + (q n).length = 0
    rw [framesQ_none q n (fun i hi => h i (by omega)), h n (by omega)]; rfl

theorem framesQ_bk (bk : Nat → Bk) : ∀ n, framesQ (fun i => (bk i).q) n = framesTo bk n
  | 0 => rfl
  | n + 1 => by
    show framesQ _ n + (bk n).q.length = framesTo bk n + (bk n).q.length
    rw [framesQ_bk bk n]

theorem filter_less (l : List Nat) (P P' : Nat → Bool) (x : Nat) (hx : x ∈ l) (nd : l.Nodup) (h : P x = true) (h' : P' x = false) (ho : ∀ y, y ≠ x → P' y = P y) : (l.filter P').length + 1 = (l.filter P).length := by
  induction l with
  | nil => cases hx
  | cons a l ih =>
    obtain ⟨h1, h2⟩ := List.nodup_cons.1 nd
    by_cases e : a = x
    · subst e
      rw [List.filter_cons_of_neg (by rw [h']; simp), List.filter_cons_of_pos h, List.length_cons]
      congr 2
      exact List.filter_congr (fun y hy => ho y (fun e => h1 (e ▸ hy)))
    · have hx' : x ∈ l := by
        rcases List.mem_cons.1 hx with e' | e'
        · exact absurd e'.symm e
        · exact e'
      have := ih hx' h2
      by_cases hp : P a = true
      · rw [List.filter_cons_of_pos (by rw [ho a e]; exact hp), List.filter_cons_of_pos hp, List.length_cons, List.length_cons]; omega
      · rw [List.filter_cons_of_neg (by rw [ho a e]; exact hp), List.filter_cons_of_neg hp]; exact this

/-- What the book knows of a frame that waits. -/
structure QIs (c : Cf) (now ids : Nat) (b : Bo) (i : Nat) (x : Fm) : Prop where
  lt : x.id < ids
  s : (b.fr x.id).s = x.s
  at_ : (b.fr x.id).at_ = x.since
  gone : (b.fr x.id).gone = false
  last : b.last i < (x.id : Int)
  one : 1 ≤ x.s.size
  le : x.s.size ≤ c.length
  si : x.since ≤ now

structure JQ (c : Cf) (now ids : Nat) (q : Nat → List Fm) (b : Bo) : Prop where
  on : b.on = c
  cok : c.ok
  len : b.f.length = ids
  qs : ∀ i, i < c.buckets → ∀ x ∈ q i, QIs c now ids b i x
  inc : ∀ i, i < c.buckets → (q i).Pairwise (fun x y => x.id < y.id)
  dis : ∀ i j, i < c.buckets → j < c.buckets → ∀ x ∈ q i, ∀ y ∈ q j, x.id = y.id → i = j
  size : ∀ i, i < c.buckets → b.size i = qBytes (q i)
  when_ : b.when_ ≤ now
  nd : b.here.Nodup
  hin : ∀ i, i < c.buckets → ∀ x ∈ q i, x.id ∈ b.here
  hlt : ∀ id ∈ b.here, id < ids
  cnt : (b.here.filter (fun id => !(b.fr id).gone)).length = framesQ q c.buckets
  able : ∀ id, id < ids → (b.fr id).able = true → canB (b.fr id).s = true
  ll : ∀ i, i < c.buckets → b.last i < (ids : Int)
  hq : ∀ id ∈ b.here, (b.fr id).gone = false → ∃ i, i < c.buckets ∧ ∃ x ∈ q i, x.id = id

section
variable {c : Cf} {now ids : Nat} {q : Nat → List Fm} {b b' : Bo}

/-- A later time. -/
theorem JQ.later (h : JQ c now ids q b) {now' : Nat} (hn : now ≤ now') : JQ c now' ids q b :=
  ⟨h.on, h.cok, h.len, fun i hi x hx => let k := h.qs i hi x hx; ⟨k.lt, k.s, k.at_, k.gone, k.last, k.one, k.le, Nat.le_trans k.si hn⟩, h.inc, h.dis, h.size, Nat.le_trans h.when_ hn, h.nd, h.hin, h.hlt, h.cnt, h.able, h.ll, h.hq⟩

theorem fr_event_same (e : Ev) (k : EvKeeps b b' e) (h : e.id < b.f.length) : b'.fr e.id = { b.fr e.id with gone := true } := by
  unfold Bo.fr; rw [k.f, frAt_set_same _ _ _ h]; rfl
theorem fr_event_other (e : Ev) (k : EvKeeps b b' e) (j : Nat) (h : j ≠ e.id) : b'.fr j = b.fr j := by
  unfold Bo.fr; rw [k.f, frAt_set_other _ _ _ _ h]

/-- The first of a bucket goes. -/
theorem JQ.pop (h : JQ c now ids q b) (i : Nat) (hi : i < c.buckets) (x : Fm) (r : List Fm) (hq : q i = x :: r) (e : Ev) (k : EvKeeps b b' e) (ht : e.time = now) (hid : e.id = x.id) (hb : e.b = i) : JQ c now ids (setAt q i r) b' := by
  have hx := h.qs i hi x (by rw [hq]; simp)
  have hinc := h.inc i hi
  rw [hq] at hinc
  obtain ⟨hinc1, hinc2⟩ := List.pairwise_cons.1 hinc
  have hxl : e.id < b.f.length := by rw [hid, h.len]; exact hx.lt
  have hsub : ∀ j, ∀ y ∈ setAt q i r j, y ∈ q j := by
    intro j y hy
    by_cases ej : j = i
    · subst ej; rw [setAt_same] at hy; rw [hq]; simp [hy]
    · rw [setAt_other _ _ _ _ ej] at hy; exact hy
  have hne : ∀ j, j < c.buckets → ∀ y ∈ setAt q i r j, y.id ≠ e.id := by
    intro j hj y hy e1
    by_cases ej : j = i
    · subst ej
      rw [setAt_same] at hy
      have := hinc1 y hy
      omega
    · have := h.dis j i hj hi y (hsub j y hy) x (by rw [hq]; simp) (by omega)
      exact ej this
  refine ⟨k.on.trans h.on, h.cok, ?_, fun j hj y hy => ?_, fun j hj => ?_, fun j j' hj hj' y hy y' hy' => h.dis j j' hj hj' y (hsub j y hy) y' (hsub j' y' hy'), fun j hj => ?_, ?_, ?_, fun j hj y hy => ?_, ?_, ?_, fun id hid' => ?_, fun j hj => ?_, fun id hid' hg => ?_⟩
  · rw [k.f, List.length_set]; exact h.len
  · have hy0 := h.qs j hj y (hsub j y hy)
    have hf := fr_event_other e k y.id (hne j hj y hy)
    refine ⟨hy0.lt, by rw [hf]; exact hy0.s, by rw [hf]; exact hy0.at_, by rw [hf]; exact hy0.gone, ?_, hy0.one, hy0.le, hy0.si⟩
    rw [k.last]
    by_cases ej : j = i
    · subst ej
      rw [hb, setAt_same]
      rw [setAt_same] at hy
      have := hinc1 y hy
      omega
    · rw [setAt_other _ _ _ _ (by omega)]; exact hy0.last
  · by_cases ej : j = i
    · subst ej; rw [setAt_same]; exact hinc2
    · rw [setAt_other _ _ _ _ ej]; exact h.inc j hj
  · rw [k.size]
    by_cases ej : j = i
    · subst ej
      rw [hb, setAt_same, setAt_same, h.size j hj, hq, hid, hx.s]
      show x.s.size + qBytes r - x.s.size = _
      omega
    · rw [setAt_other _ _ _ _ (by omega), setAt_other _ _ _ _ ej]; exact h.size j hj
  · rw [k.when_, ht]; exact Nat.le_refl _
  · rw [k.here]; exact h.nd
  · rw [k.here]; exact h.hin j hj y (hsub j y hy)
  · rw [k.here]; exact h.hlt
  · rw [k.here]
    have h1 := filter_less b.here (fun id => !(b.fr id).gone) (fun id => !(b'.fr id).gone) e.id (by rw [hid]; exact h.hin i hi x (by rw [hq]; simp)) h.nd (by rw [hid, hx.gone]; rfl) (by rw [fr_event_same e k hxl]; rfl) (fun y hy => by rw [fr_event_other e k y hy])
    have h2 := (framesQ_set q i r c.buckets).2 hi
    have h3 := h.cnt
    rw [hq] at h2
    simp only [List.length_cons] at h2
    omega
  · by_cases e1 : id = e.id
    · rw [e1, fr_event_same e k hxl]
      exact h.able e.id (by omega)
    · rw [fr_event_other e k id e1]
      exact h.able id hid'
  · rw [k.last]
    by_cases ej : j = i
    · subst ej
      rw [hb, setAt_same]
      have := hx.lt
      omega
    · rw [setAt_other _ _ _ _ (by omega)]; exact h.ll j hj
  · rw [k.here] at hid'
    by_cases e1 : id = e.id
    · rw [e1, fr_event_same e k hxl] at hg; cases hg
    · rw [fr_event_other e k id e1] at hg
      obtain ⟨j, hj, y, hy, hyid⟩ := h.hq id hid' hg
      refine ⟨j, hj, y, ?_, hyid⟩
      by_cases ej : j = i
      · subst ej
        rw [setAt_same]
        rw [hq] at hy
        rcases List.mem_cons.1 hy with e2 | e2
        · rw [e2] at hyid; omega
        · exact e2
      · rw [setAt_other _ _ _ _ ej]; exact hy

/-- What an event must be, but for the statements' own parts. -/
structure EvPlain (now : Nat) (b : Bo) (e : Ev) : Prop where
  id : e.id < b.f.length
  lo : b.when_ ≤ e.time
  hi : e.time ≤ now
  bu : e.b < b.on.buckets
  gone : (b.fr e.id).gone = false
  last : b.last e.b < e.id
  sz : e.s.size = (b.fr e.id).s.size
  fit : (b.fr e.id).s.size ≤ b.size e.b
  since : (b.fr e.id).at_ ≤ e.time
  small : (b.fr e.id).s.size ≤ 200

theorem JQ.plain (h : JQ c now ids q b) (i : Nat) (hi : i < c.buckets) (x : Fm) (r : List Fm) (hq : q i = x :: r) (kind : Nat) (t : ByteArray) (ht : t.size = x.s.size) : EvPlain now b ⟨now, kind, x.id, i, t⟩ := by
  have hx := h.qs i hi x (by rw [hq]; simp)
  have hl := h.cok.l2
  refine ⟨by rw [h.len]; exact hx.lt, h.when_, Nat.le_refl _, by rw [h.on]; exact hi, hx.gone, hx.last, by rw [hx.s]; exact ht, ?_, by rw [hx.at_]; exact hx.si, by rw [hx.s]; exact Nat.le_trans hx.le hl⟩
  rw [h.size i hi, hq, hx.s]
  show x.s.size ≤ x.s.size + qBytes r
  omega

end
end Go.Proofs.Ytnkicbopebgppaa

/-! What book and port have in common: time and turns. The small steps of a port. -/
namespace Go.Proofs.Ytnkicbopebgppaa
open Fl

structure St where
  c : Cf
  now : Nat
  busy : Bool
  upto : Nat
  q : Nat → List Fm
  tm : Nat → Bool
  fresh : List Nat
  old : List Nat
  de : Nat → Int
  ids : Nat

def Pt.st (p : Pt) : St := ⟨p.c, p.now, p.busy, p.upto, fun i => (p.bk i).q, fun i => (p.bk i).timed, p.tn.fresh, p.tn.old, p.tn.deficit, p.ids⟩

/-- A frame leaves its bucket for nothing. -/
def St.pop (s : St) (i : Nat) (r : List Fm) : St := { s with q := setAt s.q i r }
/-- A frame of n bytes goes onto the link. -/
def St.send (s : St) (i n : Nat) (r : List Fm) : St := { s with q := setAt s.q i r, busy := true, upto := s.now + n * s.c.tau, de := setAt s.de i (s.de i - n) }
def St.setTm (s : St) (i : Nat) (v : Bool) : St := { s with tm := setAt s.tm i v }
def St.lists (s : St) (F O : List Nat) (de : Nat → Int) : St := { s with fresh := F, old := O, de := de }
/-- The link is free again. -/
def St.ends (s : St) : St := { s with now := s.upto, busy := false }
def St.tick (s : St) (t : Nat) : St := { s with now := t }

structure JT (s : St) (b : Bo) : Prop where
  busy : s.busy = true → b.till = s.upto ∧ s.now ≤ s.upto
  idle : s.busy = false → b.till ≤ s.now
  listed : ∀ i, i < s.c.buckets → s.q i ≠ [] → i ∈ s.fresh ++ s.old
  lt : ∀ i ∈ s.fresh ++ s.old, i < s.c.buckets
  nd : (s.fresh ++ s.old).Nodup
  used : ∀ i ∈ s.fresh ++ s.old, b.used i = true
  calm : ∀ i, i < s.c.buckets → i ∉ s.fresh ++ s.old → s.tm i = false
  de : ∀ i ∈ s.fresh ++ s.old, 1 - (s.c.length : Int) ≤ s.de i ∧ s.de i ≤ s.c.quantum
  rem : b.old = false → s.busy = true → s.upto ≤ s.now + s.c.length * s.c.tau

section
variable {s : St} {b b' : Bo}

theorem JT.pop (h : JT s b) (i : Nat) (x : Fm) (r : List Fm) (hq : s.q i = x :: r) (ht : b'.till = b.till) (hu : b'.used = b.used) (ho : b'.old = b.old) : JT (s.pop i r) b' := by
  refine ⟨fun hb => by rw [ht]; exact h.busy hb, fun hb => by rw [ht]; exact h.idle hb, fun j hj hn => h.listed j hj ?_, h.lt, h.nd, fun j hj => by rw [hu]; exact h.used j hj, h.calm, h.de, fun hb => h.rem (by rw [← ho]; exact hb)⟩
  intro e
  apply hn
  show setAt s.q i r j = []
  by_cases ej : j = i
  · subst ej; rw [hq] at e; cases e
  · rw [setAt_other _ _ _ _ ej]; exact e

theorem JT.send (h : JT s b) (i : Nat) (x : Fm) (r : List Fm) (hq : s.q i = x :: r) (n : Nat) (hn : n ≤ s.c.length) (hd : 0 < s.de i) (ht : b'.till = s.now + n * s.c.tau) (hu : b'.used = b.used) : JT (s.send i n r) b' := by
  refine ⟨fun _ => ⟨ht, Nat.le_add_right _ _⟩, fun hb => (by cases hb), fun j hj hne => h.listed j hj ?_, h.lt, h.nd, fun j hj => by rw [hu]; exact h.used j hj, h.calm, fun j hj => ?_, fun _ _ => ?_⟩
  · intro e
    apply hne
    show setAt s.q i r j = []
    by_cases ej : j = i
    · subst ej; rw [hq] at e; cases e
    · rw [setAt_other _ _ _ _ ej]; exact e
  · show 1 - (s.c.length : Int) ≤ setAt s.de i (s.de i - n) j ∧ setAt s.de i (s.de i - n) j ≤ s.c.quantum
    by_cases ej : j = i
    · subst ej
      have := h.de j hj
      rw [setAt_same]; omega
    · rw [setAt_other _ _ _ _ ej]; exact h.de j hj
  · show s.now + n * s.c.tau ≤ s.now + s.c.length * s.c.tau
    exact Nat.add_le_add_left (Nat.mul_le_mul_right _ hn) _

theorem JT.setTm (h : JT s b) (i : Nat) (v : Bool) (hi : i ∈ s.fresh ++ s.old) : JT (s.setTm i v) b := by
  refine ⟨h.busy, h.idle, h.listed, h.lt, h.nd, h.used, fun j hj hn => ?_, h.de, h.rem⟩
  show setAt s.tm i v j = false
  rw [setAt_other _ _ _ _ (fun e => hn (by rw [e]; exact hi))]
  exact h.calm j hj hn

theorem JT.lists (h : JT s b) (F O : List Nat) (de : Nat → Int) (hsub : ∀ j ∈ F ++ O, j ∈ s.fresh ++ s.old) (hout : ∀ j ∈ s.fresh ++ s.old, j ∉ F ++ O → s.q j = [] ∧ s.tm j = false) (hnd : (F ++ O).Nodup)
    (hde : ∀ j ∈ F ++ O, 1 - (s.c.length : Int) ≤ de j ∧ de j ≤ s.c.quantum) : JT (s.lists F O de) b := by
  refine ⟨h.busy, h.idle, fun j hj hn => ?_, fun j hj => h.lt j (hsub j hj), hnd, fun j hj => h.used j (hsub j hj), fun j hj hn => ?_, hde, h.rem⟩
  · by_cases hm : j ∈ F ++ O
    · exact hm
    · exact absurd (hout j (h.listed j hj hn) hm).1 hn
  · by_cases hm : j ∈ s.fresh ++ s.old
    · exact (hout j hm hn).2
    · exact h.calm j hj hm

theorem JT.ends (h : JT s b) (hb : s.busy = true) : JT s.ends b :=
  ⟨fun e => (by cases e), fun _ => Nat.le_of_eq (h.busy hb).1, h.listed, h.lt, h.nd, h.used, h.calm, h.de, fun _ e => (by cases e)⟩

theorem JT.tick (h : JT s b) (t : Nat) (h1 : s.now ≤ t) (h2 : s.busy = true → t ≤ s.upto) : JT (s.tick t) b :=
  ⟨fun hb => ⟨(h.busy hb).1, h2 hb⟩, fun hb => Nat.le_trans (h.idle hb) h1, h.listed, h.lt, h.nd, h.used, h.calm, h.de, fun ho hb => Nat.le_trans (h.rem ho hb) (Nat.add_le_add_right h1 _)⟩

end

/-- What events keep of a frame. -/
theorem fr_event {b b' : Bo} {e : Ev} (k : EvKeeps b b' e) (h : e.id < b.f.length) (id : Nat) : (b'.fr id).first = (b.fr id).first ∧ (b'.fr id).soon = (b.fr id).soon := by
  by_cases e1 : id = e.id
  · rw [e1, fr_event_same e k h]; exact ⟨rfl, rfl⟩
  · rw [fr_event_other e k id e1]; exact ⟨rfl, rfl⟩

end Go.Proofs.Ytnkicbopebgppaa

/-! Limits, and the first frames of buckets that had nothing. -/
namespace Go.Proofs.Ytnkicbopebgppaa
open Fl

/-- What a bucket with such a deficit may send at its turn. -/
def cost (L : Nat) (d : Int) : Nat := if 0 < d then (d + L - 1).toNat else 0
def costs (L : Nat) (de : Nat → Int) : List Nat → Nat
  | [] => 0
  | j :: l => cost L (de j) + costs L de l

theorem cost_send (L n : Nat) (d : Int) (hd : 0 < d) (hn : n ≤ L) : n + cost L (d - n) ≤ cost L d := by
  unfold cost
  rw [if_pos hd]
  split <;> omega
theorem cost_le (L Q : Nat) (d : Int) (hd : d ≤ Q) : cost L d ≤ Q + L - 1 := by
  unfold cost
  split <;> omega
theorem cost_none (L : Nat) (d : Int) (hd : d ≤ 0) : cost L d = 0 := by
  unfold cost
  rw [if_neg (by omega)]
theorem costs_congr (L : Nat) (de de' : Nat → Int) : ∀ l : List Nat, (∀ j ∈ l, de' j = de j) → costs L de' l = costs L de l
  | [], _ => rfl
  | j :: l, h => by
    show cost L (de' j) + costs L de' l = cost L (de j) + costs L de l
    rw [h j (by simp), costs_congr L de de' l (fun k hk => h k (by simp [hk]))]
theorem costs_append (L : Nat) (de : Nat → Int) : ∀ l m : List Nat, costs L de (l ++ m) = costs L de l + costs L de m
  | [], m => by simp [costs]
  | j :: l, m => by
    show cost L (de j) + costs L de (l ++ m) = cost L (de j) + costs L de l + costs L de m
    rw [costs_append L de l m]; omega
theorem costs_le (L Q : Nat) (de : Nat → Int) : ∀ l : List Nat, (∀ j ∈ l, de j ≤ Q) → costs L de l ≤ l.length * (Q + L - 1)
  | [], _ => Nat.zero_le _
  | j :: l, h => by
    have h1 := cost_le L Q (de j) (h j (by simp))
    have h2 := costs_le L Q de l (fun k hk => h k (by simp [hk]))
    show cost L (de j) + costs L de l ≤ (l.length + 1) * (Q + L - 1)
    rw [Nat.add_mul]; omega

def St.base (s : St) : Nat := if s.busy = true then s.upto else s.now

theorem St.base_busy (s : St) (h : s.busy = true) : s.base = s.upto := if_pos h
theorem St.base_idle (s : St) (h : s.busy = false) : s.base = s.now := by unfold St.base; rw [h]; rfl

/-- What is dropped for there is too much. -/
def JL (n : Nat) (b : Bo) : Prop := ∀ i, i < n → b.over i = true → ∀ j, j < n → b.size j ≤ b.size i + b.left i

theorem JL.event {n : Nat} {b b' : Bo} {e : Ev} (h : JL n b) (k : EvKeeps b b' e) (hf : (b.fr e.id).s.size ≤ b.size e.b) (ho : b'.over = if e.kind = 3 then setAt b.over e.b true else b.over) (hm : e.kind = 3 → ∀ j, j < n → b.size j ≤ b.size e.b) : JL n b' := by
  have hsum : ∀ i, b'.size i + b'.left i = b.size i + b.left i := by
    intro i
    rw [k.size, k.left]
    by_cases ei : i = e.b
    · subst ei; rw [setAt_same, setAt_same]; omega
    · rw [setAt_other _ _ _ _ ei, setAt_other _ _ _ _ ei]
  have hless : ∀ i, b'.size i ≤ b.size i := by
    intro i
    rw [k.size]
    by_cases ei : i = e.b
    · subst ei; rw [setAt_same]; omega
    · rw [setAt_other _ _ _ _ ei]; exact Nat.le_refl _
  intro i hi hov j hj
  have h1 := hsum i
  have h2 := hless j
  by_cases e3 : e.kind = 3
  · rw [if_pos e3] at ho
    by_cases ei : i = e.b
    · subst ei
      have := hm e3 j hj
      omega
    · rw [ho, setAt_other _ _ _ _ ei] at hov
      have := h i hi hov j hj
      omega
  · rw [if_neg e3] at ho
    rw [ho] at hov
    have := h i hi hov j hj
    omega

/-- The first frame of a bucket that had nothing stands first, in a new bucket, with the whole quantum, and no clock runs. -/
def JF (s : St) (b : Bo) : Prop := ∀ i, i < s.c.buckets → ∀ x r, s.q i = x :: r →
  (0 ≤ (b.fr x.id).first → s.tm i = false ∧ i ∈ s.fresh ∧ s.de i = s.c.quantum) ∧ ∀ y ∈ r, (b.fr y.id).first < 0

/-- When it must be on the link. -/
def JS (s : St) (b : Bo) : Prop := ∀ i, i < s.c.buckets → ∀ x r, s.q i = x :: r → 0 ≤ (b.fr x.id).first →
  ∃ A B, s.fresh = A ++ i :: B ∧ ((s.base + costs s.c.length s.de A * s.c.tau : Nat) : Int) ≤ (b.fr x.id).first

/-- A new bucket has been given what it has not got any more. -/
def JU (s : St) (b : Bo) : Prop := ∀ i ∈ s.fresh, (b.turn i : Int) ≤ s.c.quantum - s.de i

section
variable {s : St} {b b' : Bo}

theorem JU.send (h : JU s b) (i n : Nat) (r : List Fm) (ht : b'.turn = setAt b.turn i (b.turn i + n)) : JU (s.send i n r) b' := by
  intro j hj
  rw [ht]
  show ((setAt b.turn i (b.turn i + n) j : Nat) : Int) ≤ s.c.quantum - setAt s.de i (s.de i - n) j
  have := h j hj
  by_cases e : j = i
  · subst e; rw [setAt_same, setAt_same]; omega
  · rw [setAt_other _ _ _ _ e, setAt_other _ _ _ _ e]; exact this

theorem JU.lists (h : JU s b) (F O : List Nat) (de : Nat → Int) (hF : ∀ j ∈ F, j ∈ s.fresh ∧ de j = s.de j) : JU (s.lists F O de) b := by
  intro j hj
  obtain ⟨h1, h2⟩ := hF j hj
  show (b.turn j : Int) ≤ s.c.quantum - de j
  rw [h2]
  exact h j h1

theorem setAt_head {q : Nat → List Fm} {i j : Nat} {r : List Fm} {x y : Fm} {r' : List Fm} (hq : q i = x :: r) (hj : setAt q i r j = y :: r') : (j = i ∧ r = y :: r') ∨ (j ≠ i ∧ q j = y :: r') := by
  by_cases e : j = i
  · subst e; rw [setAt_same] at hj; exact .inl ⟨rfl, hj⟩
  · rw [setAt_other _ _ _ _ e] at hj; exact .inr ⟨e, hj⟩

theorem JF.pop (h : JF s b) (i : Nat) (hi : i < s.c.buckets) (x : Fm) (r : List Fm) (hq : s.q i = x :: r) (hf : ∀ id, (b'.fr id).first = (b.fr id).first) (de : Nat → Int) (hde : ∀ j, j ≠ i → de j = s.de j) (bu : Bool) (up : Nat) :
    JF { s with q := setAt s.q i r, busy := bu, upto := up, de := de } b' := by
  intro j hj y r' hy
  rcases setAt_head hq hy with ⟨rfl, hr⟩ | ⟨hne, hy'⟩
  · have h0 := (h j hj x r hq).2
    rw [hr] at h0
    refine ⟨fun hp => ?_, fun z hz => ?_⟩
    · have := h0 y (by simp)
      rw [hf] at hp; omega
    · rw [hf]; exact h0 z (by simp [hz])
  · obtain ⟨h1, h2⟩ := h j hj y r' hy'
    refine ⟨fun hp => ?_, fun z hz => by rw [hf]; exact h2 z hz⟩
    rw [hf] at hp
    obtain ⟨a1, a2, a3⟩ := h1 hp
    exact ⟨a1, a2, (hde j hne).trans a3⟩

theorem JF.setTm (h : JF s b) (i : Nat) (v : Bool) (hno : ∀ x r, s.q i = x :: r → (b.fr x.id).first < 0) : JF (s.setTm i v) b := by
  intro j hj y r' hy
  obtain ⟨h1, h2⟩ := h j hj y r' hy
  refine ⟨fun hp => ?_, h2⟩
  obtain ⟨a1, a2, a3⟩ := h1 hp
  refine ⟨?_, a2, a3⟩
  show setAt s.tm i v j = false
  by_cases e : j = i
  · subst e
    have := hno y r' hy
    omega
  · rw [setAt_other _ _ _ _ e]; exact a1

theorem JF.listsF (h : JF s b) (i : Nat) (F O : List Nat) (de : Nat → Int) (hf : s.fresh = i :: F) (hno : ∀ x r, s.q i = x :: r → (b.fr x.id).first < 0) (hde : ∀ j, j ≠ i → de j = s.de j) : JF (s.lists F O de) b := by
  intro j hj y r' hy
  obtain ⟨h1, h2⟩ := h j hj y r' hy
  refine ⟨fun hp => ?_, h2⟩
  obtain ⟨a1, a2, a3⟩ := h1 hp
  have hne : j ≠ i := by
    intro e
    subst e
    have := hno y r' hy
    omega
  refine ⟨a1, ?_, (hde j hne).trans a3⟩
  rw [hf] at a2
  rcases List.mem_cons.1 a2 with e | e
  · exact absurd e hne
  · exact e

theorem JF.listsO (h : JF s b) (O : List Nat) (de : Nat → Int) (hf : s.fresh = []) : JF (s.lists [] O de) b := by
  intro j hj y r' hy
  obtain ⟨h1, h2⟩ := h j hj y r' hy
  refine ⟨fun hp => ?_, h2⟩
  have := (h1 hp).2.1
  rw [hf] at this
  cases this

theorem JF.time (h : JF s b) (now : Nat) (bu : Bool) : JF { s with now := now, busy := bu } b := h

theorem JS.drop (h : JS s b) (hF : JF s b) (i : Nat) (hi : i < s.c.buckets) (x : Fm) (r : List Fm) (hq : s.q i = x :: r) (hf : ∀ id, (b'.fr id).first = (b.fr id).first) : JS (s.pop i r) b' := by
  intro j hj y r' hy hp
  rw [hf] at hp ⊢
  rcases setAt_head hq hy with ⟨rfl, hr⟩ | ⟨hne, hy'⟩
  · have h0 := (hF j hj x r hq).2 y (by rw [hr]; simp)
    omega
  · exact h j hj y r' hy' hp

theorem JS.send (h : JS s b) (hF : JF s b) (hnd : (s.fresh ++ s.old).Nodup) (i : Nat) (hi : i < s.c.buckets) (x : Fm) (r : List Fm) (hq : s.q i = x :: r) (hf : ∀ id, (b'.fr id).first = (b.fr id).first) (n : Nat) (hn : n ≤ s.c.length)
    (hb : s.busy = false) (hd : 0 < s.de i) (hh : s.fresh = [] ∨ ∃ F, s.fresh = i :: F) : JS (s.send i n r) b' := by
  intro j hj y r' hy hp
  rw [hf] at hp ⊢
  rcases setAt_head hq hy with ⟨rfl, hr⟩ | ⟨hne, hy'⟩
  · have h0 := (hF j hj x r hq).2 y (by rw [hr]; simp)
    omega
  · obtain ⟨A, B, hA, hle⟩ := h j hj y r' hy' hp
    rcases hh with hh | ⟨F, hh⟩
    · rw [hh] at hA; simp at hA
    · rcases A with _ | ⟨a, A⟩
      · rw [hh] at hA
        simp at hA
        exact absurd hA.1.symm hne
      · refine ⟨a :: A, B, hA, Int.le_trans ?_ hle⟩
        rw [hh] at hA hnd
        simp only [List.cons_append, List.cons.injEq] at hA
        obtain ⟨rfl, hA⟩ := hA
        have hni : i ∉ A := by
          intro hm
          rw [hA] at hnd
          simp only [List.cons_append, List.append_assoc, List.nodup_cons, List.mem_append] at hnd
          exact hnd.1 (.inl hm)
        rw [St.base_idle s hb, St.base_busy _ (rfl : (s.send i n r).busy = true)]
        show ((s.now + n * s.c.tau + (cost s.c.length (setAt s.de i (s.de i - n) i) + costs s.c.length (setAt s.de i (s.de i - n)) A) * s.c.tau : Nat) : Int) ≤ ((s.now + (cost s.c.length (s.de i) + costs s.c.length s.de A) * s.c.tau : Nat) : Int)
        rw [setAt_same, costs_congr s.c.length s.de _ A (fun k hk => setAt_other _ i _ k (fun e => hni (by rw [← e]; exact hk)))]
        have h1 := cost_send s.c.length n (s.de i) hd hn
        have h2 := Nat.mul_le_mul_right s.c.tau (show n + (cost s.c.length (s.de i - n) + costs s.c.length s.de A) ≤ cost s.c.length (s.de i) + costs s.c.length s.de A by omega)
        rw [Nat.add_mul] at h2
        omega

theorem JS.setTm (h : JS s b) (i : Nat) (v : Bool) : JS (s.setTm i v) b := h

theorem JS.listsF (h : JS s b) (hnd : (s.fresh ++ s.old).Nodup) (i : Nat) (F O : List Nat) (de : Nat → Int) (hf : s.fresh = i :: F) (hno : ∀ x r, s.q i = x :: r → (b.fr x.id).first < 0) (hde : ∀ j, j ≠ i → de j = s.de j) : JS (s.lists F O de) b := by
  intro j hj y r' hy hp
  obtain ⟨A, B, hA, hle⟩ := h j hj y r' hy hp
  have hne : j ≠ i := by
    intro e
    subst e
    have := hno y r' hy
    omega
  rw [hf] at hA hnd
  rcases A with _ | ⟨a, A⟩
  · simp at hA
    exact absurd hA.1.symm hne
  · simp only [List.cons_append, List.cons.injEq] at hA
    obtain ⟨rfl, hA⟩ := hA
    have hni : i ∉ A := by
      intro hm
      rw [hA] at hnd
      simp only [List.cons_append, List.append_assoc, List.nodup_cons, List.mem_append] at hnd
      exact hnd.1 (.inl hm)
    refine ⟨A, B, hA, Int.le_trans ?_ hle⟩
    show ((s.base + costs s.c.length de A * s.c.tau : Nat) : Int) ≤ ((s.base + (cost s.c.length (s.de i) + costs s.c.length s.de A) * s.c.tau : Nat) : Int)
    rw [costs_congr s.c.length s.de _ A (fun k hk => hde k (fun e => hni (by rw [← e]; exact hk)))]
    have h2 := Nat.mul_le_mul_right s.c.tau (Nat.le_add_left (costs s.c.length s.de A) (cost s.c.length (s.de i)))
    omega

theorem JS.listsO (h : JS s b) (O : List Nat) (de : Nat → Int) (hf : s.fresh = []) : JS (s.lists [] O de) b := by
  intro j hj y r' hy hp
  obtain ⟨A, B, hA, _⟩ := h j hj y r' hy hp
  rw [hf] at hA
  simp at hA

theorem JS.ends (h : JS s b) (hb : s.busy = true) : JS s.ends b := by
  intro j hj y r' hy hp
  obtain ⟨A, B, hA, hle⟩ := h j hj y r' hy hp
  refine ⟨A, B, hA, ?_⟩
  rw [St.base_busy s hb] at hle
  rw [St.base_idle _ (rfl : s.ends.busy = false)]
  exact hle

theorem JS.tick (h : JS s b) (t : Nat) (hb : s.busy = true ∨ s.fresh = []) : JS (s.tick t) b := by
  intro j hj y r' hy hp
  obtain ⟨A, B, hA, hle⟩ := h j hj y r' hy hp
  rcases hb with hb | hb
  · refine ⟨A, B, hA, ?_⟩
    rw [St.base_busy s hb] at hle
    rw [St.base_busy (s.tick t) hb]
    exact hle
  · rw [hb] at hA; simp at hA

/-- It waits no longer than it may. -/
theorem JS.waits (h : JS s b) (hT : JT s b) (i : Nat) (hi : i < s.c.buckets) (x : Fm) (r : List Fm) (hq : s.q i = x :: r) (hp : 0 ≤ (b.fr x.id).first) : (s.now : Int) ≤ (b.fr x.id).first := by
  obtain ⟨A, B, hA, hle⟩ := h i hi x r hq hp
  have : s.now ≤ s.base := by
    unfold St.base
    split
    · rename_i hb; exact (hT.busy hb).2
    · exact Nat.le_refl _
  omega

end
end Go.Proofs.Ytnkicbopebgppaa

/-! Of two buckets that always have something. -/
namespace Go.Proofs.Ytnkicbopebgppaa
open Fl

/-- What one was given more than the other, were both to pay what they owe. -/
def owed (s : St) (b : Bo) (i k : Nat) : Int := (b.sent i : Int) - b.sent k + s.de i - s.de k

def JFa (s : St) (b : Bo) : Prop := ∀ i k, k < i → i < s.c.buckets → (b.pairs (i * s.c.buckets + k)).on = true → s.q i ≠ [] → s.q k ≠ [] →
  ∃ K : Int, ((List.Sublist [i, k] (s.fresh ++ s.old) ∧ owed s b i k = K) ∨ (List.Sublist [k, i] (s.fresh ++ s.old) ∧ owed s b i k = K + s.c.quantum)) ∧
    K - s.c.quantum - s.c.length + 1 ≤ (b.pairs (i * s.c.buckets + k)).least ∧ (b.pairs (i * s.c.buckets + k)).most ≤ K + 2 * s.c.quantum + s.c.length - 1

theorem sub_tail {m i k : Nat} {l : List Nat} (h : List.Sublist [i, k] (m :: l)) (hm : m ≠ i) : List.Sublist [i, k] l := by
  cases h with
  | cons _ h => exact h
  | cons_cons _ h => exact absurd rfl hm

theorem sub_not {i k : Nat} {l : List Nat} (h : List.Sublist [k, i] (i :: l)) (hn : i ∉ l) : False := by
  cases h with
  | cons _ h => exact hn (h.subset (by simp))
  | cons_cons _ h => exact hn (h.subset (by simp))

theorem sub_turned {i k : Nat} {l : List Nat} (h : k ∈ l) : List.Sublist [k, i] (l ++ [i]) := by
  have h1 : List.Sublist [k] l := List.singleton_sublist.2 h
  exact h1.append (List.Sublist.refl [i])

section
variable {s : St} {b b' : Bo}

theorem JFa.drop (h : JFa s b) (i : Nat) (x : Fm) (r : List Fm) (hq : s.q i = x :: r) (hs : b'.sent = b.sent) (hp : b'.pairs = b.pairs) : JFa (s.pop i r) b' := by
  intro j k hkj hj hon h1 h2
  rw [hp] at hon ⊢
  have hne : ∀ m, (s.pop i r).q m ≠ [] → s.q m ≠ [] := by
    intro m hm e
    apply hm
    show setAt s.q i r m = []
    by_cases em : m = i
    · subst em; rw [hq] at e; cases e
    · rw [setAt_other _ _ _ _ em]; exact e
  obtain ⟨K, h3, h4⟩ := h j k hkj hj hon (hne j h1) (hne k h2)
  refine ⟨K, ?_, h4⟩
  have : owed (s.pop i r) b' j k = owed s b j k := by unfold owed; rw [hs]; rfl
  rw [this]
  exact h3

theorem JFa.send (h : JFa s b) (i n : Nat) (x : Fm) (r : List Fm) (hq : s.q i = x :: r) (hs : b'.sent = setAt b.sent i (b.sent i + n)) (hp : b'.pairs = b.pairs) : JFa (s.send i n r) b' := by
  intro j k hkj hj hon h1 h2
  rw [hp] at hon ⊢
  have hne : ∀ m, (s.send i n r).q m ≠ [] → s.q m ≠ [] := by
    intro m hm e
    apply hm
    show setAt s.q i r m = []
    by_cases em : m = i
    · subst em; rw [hq] at e; cases e
    · rw [setAt_other _ _ _ _ em]; exact e
  obtain ⟨K, h3, h4⟩ := h j k hkj hj hon (hne j h1) (hne k h2)
  refine ⟨K, ?_, h4⟩
  have hone : ∀ m, ((b'.sent m : Nat) : Int) + (s.send i n r).de m = b.sent m + s.de m := by
    intro m
    rw [hs]
    show ((setAt b.sent i (b.sent i + n) m : Nat) : Int) + setAt s.de i (s.de i - n) m = _
    by_cases em : m = i
    · subst em; rw [setAt_same, setAt_same]; omega
    · rw [setAt_other _ _ _ _ em, setAt_other _ _ _ _ em]
  have : owed (s.send i n r) b' j k = owed s b j k := by
    have e1 := hone j
    have e2 := hone k
    unfold owed
    omega
  rw [this]
  exact h3

/-- The first of all turns to the end, a quantum richer. -/
theorem JFa.turn (h : JFa s b) (m : Nat) (l F O : List Nat) (hl : s.fresh ++ s.old = m :: l) (hl' : F ++ O = l ++ [m]) (hnd : (s.fresh ++ s.old).Nodup) : JFa (s.lists F O (setAt s.de m (s.de m + s.c.quantum))) b := by
  intro j k hkj hj hon h1 h2
  obtain ⟨K, h3, h4⟩ := h j k hkj hj hon h1 h2
  rw [hl] at h3 hnd
  have hml : m ∉ l := (List.nodup_cons.1 hnd).1
  refine ⟨K, ?_, h4⟩
  show (List.Sublist [j, k] (F ++ O) ∧ (b.sent j : Int) - b.sent k + setAt s.de m (s.de m + s.c.quantum) j - setAt s.de m (s.de m + s.c.quantum) k = K) ∨ (List.Sublist [k, j] (F ++ O) ∧ (b.sent j : Int) - b.sent k + setAt s.de m (s.de m + s.c.quantum) j - setAt s.de m (s.de m + s.c.quantum) k = K + s.c.quantum)
  rw [hl']
  unfold owed at h3
  by_cases ej : j = m
  · subst ej
    have hkm : k ≠ j := by omega
    rcases h3 with ⟨hs, hv⟩ | ⟨hs, _⟩
    · right
      have hk : k ∈ l := by
        have := hs.subset (show k ∈ [j, k] by simp)
        rcases List.mem_cons.1 this with e | e
        · exact absurd e hkm
        · exact e
      refine ⟨sub_turned hk, ?_⟩
      rw [setAt_same, setAt_other _ _ _ _ hkm]; omega
    · exact absurd (sub_not hs hml) id
  · by_cases ek : k = m
    · subst ek
      rcases h3 with ⟨hs, _⟩ | ⟨hs, hv⟩
      · exact absurd (sub_not hs hml) id
      · left
        have hjl : j ∈ l := by
          have := hs.subset (show j ∈ [k, j] by simp)
          rcases List.mem_cons.1 this with e | e
          · exact absurd e ej
          · exact e
        refine ⟨sub_turned hjl, ?_⟩
        rw [setAt_same, setAt_other _ _ _ _ ej]; omega
    · rw [setAt_other _ _ _ _ ej, setAt_other _ _ _ _ ek]
      rcases h3 with ⟨hs, hv⟩ | ⟨hs, hv⟩
      · exact .inl ⟨(sub_tail hs (Ne.symm ej)).trans (List.sublist_append_left _ _), hv⟩
      · exact .inr ⟨(sub_tail hs (Ne.symm ek)).trans (List.sublist_append_left _ _), hv⟩

/-- The first of all leaves, or goes to the end: it has nothing. -/
theorem JFa.leave (h : JFa s b) (m : Nat) (l F O : List Nat) (hl : s.fresh ++ s.old = m :: l) (hl' : List.Sublist l (F ++ O)) (hq : s.q m = []) : JFa (s.lists F O s.de) b := by
  intro j k hkj hj hon h1 h2
  obtain ⟨K, h3, h4⟩ := h j k hkj hj hon h1 h2
  rw [hl] at h3
  have ej : m ≠ j := fun e => h1 (by show s.q j = []; rw [← e]; exact hq)
  have ek : m ≠ k := fun e => h2 (by show s.q k = []; rw [← e]; exact hq)
  refine ⟨K, ?_, h4⟩
  rcases h3 with ⟨hs, hv⟩ | ⟨hs, hv⟩
  · exact .inl ⟨(sub_tail hs ej).trans hl', hv⟩
  · exact .inr ⟨(sub_tail hs ek).trans hl', hv⟩

theorem sub_either {l : List Nat} {i k : Nat} (hi : i ∈ l) (hk : k ∈ l) (hne : i ≠ k) : List.Sublist [i, k] l ∨ List.Sublist [k, i] l := by
  induction l with
  | nil => cases hi
  | cons a l ih =>
    rcases List.mem_cons.1 hi with e | hi'
    · subst e
      rcases List.mem_cons.1 hk with e | hk'
      · exact absurd e.symm hne
      · exact .inl ((List.singleton_sublist.2 hk').cons_cons _)
    · rcases List.mem_cons.1 hk with e | hk'
      · subst e
        exact .inr ((List.singleton_sublist.2 hi').cons_cons _)
      · rcases ih hi' hk' with h | h
        · exact .inl (h.cons _)
        · exact .inr (h.cons _)

/-- How the difference lies. -/
theorem JFa.window (hT : JT s b) (i k : Nat) (hi : i < s.c.buckets) (hk : k < s.c.buckets) (h1 : s.q i ≠ []) (h2 : s.q k ≠ []) (K : Int)
    (h : (List.Sublist [i, k] (s.fresh ++ s.old) ∧ owed s b i k = K) ∨ (List.Sublist [k, i] (s.fresh ++ s.old) ∧ owed s b i k = K + s.c.quantum)) :
    K - s.c.quantum - s.c.length + 1 ≤ (b.sent i : Int) - b.sent k ∧ (b.sent i : Int) - b.sent k ≤ K + 2 * s.c.quantum + s.c.length - 1 := by
  have d1 := hT.de i (hT.listed i hi h1)
  have d2 := hT.de k (hT.listed k hk h2)
  unfold owed at h
  omega

theorem JFa.start (hT : JT s b) (i k : Nat) (hne : i ≠ k) (hi : i < s.c.buckets) (hk : k < s.c.buckets) (h1 : s.q i ≠ []) (h2 : s.q k ≠ []) :
    ∃ K : Int, (List.Sublist [i, k] (s.fresh ++ s.old) ∧ owed s b i k = K) ∨ (List.Sublist [k, i] (s.fresh ++ s.old) ∧ owed s b i k = K + s.c.quantum) := by
  rcases sub_either (hT.listed i hi h1) (hT.listed k hk h2) hne with h | h
  · exact ⟨owed s b i k, .inl ⟨h, rfl⟩⟩
  · exact ⟨owed s b i k - s.c.quantum, .inr ⟨h, by omega⟩⟩

end
end Go.Proofs.Ytnkicbopebgppaa

/-! How soon a frame leaves. -/
namespace Go.Proofs.Ytnkicbopebgppaa
open Fl

/-- How many turns a bucket needs till n bytes are gone. -/
def tts (Q : Nat) (d : Int) (n : Nat) : Nat := ((n : Int) - d + Q - 1).toNat / Q

theorem tts_mono (Q : Nat) (d : Int) (n m : Nat) (h : n ≤ m) : tts Q d n ≤ tts Q d m := Nat.div_le_div_right (by omega)
theorem tts_send (Q : Nat) (d : Int) (n m : Nat) : tts Q (d - n) m = tts Q d (n + m) := by
  unfold tts
  congr 2
  omega
theorem tts_turn (Q : Nat) (d : Int) (n : Nat) (hQ : 1 ≤ Q) (hd : d ≤ 0) (hn : 1 ≤ n) : tts Q d n = tts Q (d + Q) n + 1 := by
  unfold tts
  have e : ((n : Int) - d + Q - 1).toNat = ((n : Int) - (d + Q) + Q - 1).toNat + Q := by omega
  rw [e, Nat.add_div_right _ (by omega)]

def Cf.V (c : Cf) : Nat := c.quantum + c.length - 1
def Cf.M (c : Cf) : Nat := 2 * c.buckets * (c.quantum + c.length)

/-- What the others may send till bucket i has its turn. -/
def IsS (s : St) (i S : Nat) : Prop :=
  (∃ A B, s.fresh = A ++ i :: B ∧ S = costs s.c.length s.de A) ∨
  (∃ A B, s.old = A ++ i :: B ∧ S = costs s.c.length s.de s.fresh + costs s.c.length s.de A + s.c.V * (A.length + (s.c.buckets - (s.fresh.length + s.old.length))))

def due (s : St) (i S m : Nat) : Nat := s.base + (S + cost s.c.length (s.de i) + s.c.M * tts s.c.quantum (s.de i) m) * s.c.tau

def JSo (s : St) (b : Bo) : Prop := ∀ i, i < s.c.buckets → ∀ pre x post, s.q i = pre ++ x :: post → 0 ≤ (b.fr x.id).soon →
  ∃ S, IsS s i S ∧ ((due s i S (qBytes (pre ++ [x])) : Nat) : Int) ≤ (b.fr x.id).soon

theorem qBytes_cons (x : Fm) (l : List Fm) : qBytes (x :: l) = x.s.size + qBytes l := rfl

section
variable {s : St} {b b' : Bo}

theorem JSo.drop (h : JSo s b) (i : Nat) (x : Fm) (r : List Fm) (hq : s.q i = x :: r) (hf : ∀ id, (b'.fr id).soon = (b.fr id).soon) : JSo (s.pop i r) b' := by
  intro j hj pre y post hy hp
  rw [hf] at hp ⊢
  have hy' : setAt s.q i r j = pre ++ y :: post := hy
  by_cases e : j = i
  · subst e
    rw [setAt_same] at hy'
    obtain ⟨S, hS, hle⟩ := h j hj (x :: pre) y post (by rw [hq, hy']; rfl) hp
    refine ⟨S, hS, Int.le_trans ?_ hle⟩
    have h1 := tts_mono s.c.quantum (s.de j) (qBytes (pre ++ [y])) (qBytes (x :: pre ++ [y])) (by rw [List.cons_append, qBytes_cons]; omega)
    have h2 := Nat.mul_le_mul_left s.c.M h1
    have h3 := Nat.mul_le_mul_right s.c.tau (Nat.add_le_add_left h2 (S + cost s.c.length (s.de j)))
    show ((s.base + (S + cost s.c.length (s.de j) + s.c.M * tts s.c.quantum (s.de j) (qBytes (pre ++ [y]))) * s.c.tau : Nat) : Int) ≤ ((s.base + (S + cost s.c.length (s.de j) + s.c.M * tts s.c.quantum (s.de j) (qBytes (x :: pre ++ [y]))) * s.c.tau : Nat) : Int)
    omega
  · rw [setAt_other _ _ _ _ e] at hy'
    exact h j hj pre y post hy' hp

theorem due_send (s : St) (i j S S' n m m' : Nat) (r : List Fm) (hb : s.busy = false) (hS : n + (S' + cost s.c.length ((s.send i n r).de j)) ≤ S + cost s.c.length (s.de j)) (ht : tts s.c.quantum ((s.send i n r).de j) m' = tts s.c.quantum (s.de j) m) :
    due (s.send i n r) j S' m' ≤ due s j S m := by
  unfold due
  rw [St.base_busy _ (rfl : (s.send i n r).busy = true), St.base_idle s hb]
  show s.now + n * s.c.tau + (S' + cost s.c.length ((s.send i n r).de j) + s.c.M * tts s.c.quantum ((s.send i n r).de j) m') * s.c.tau ≤ _
  rw [ht]
  show s.now + n * s.c.tau + (S' + cost s.c.length ((s.send i n r).de j) + s.c.M * tts s.c.quantum (s.de j) m) * s.c.tau ≤ s.now + (S + cost s.c.length (s.de j) + s.c.M * tts s.c.quantum (s.de j) m) * s.c.tau
  have h1 := Nat.mul_le_mul_right s.c.tau (Nat.add_le_add_right hS (s.c.M * tts s.c.quantum (s.de j) m))
  rw [show n + (S' + cost s.c.length ((s.send i n r).de j)) + s.c.M * tts s.c.quantum (s.de j) m = n + (S' + cost s.c.length ((s.send i n r).de j) + s.c.M * tts s.c.quantum (s.de j) m) by omega, Nat.add_mul n] at h1
  omega

theorem costs_out (L : Nat) (de : Nat → Int) (i : Nat) (v : Int) (l : List Nat) (h : i ∉ l) : costs L (setAt de i v) l = costs L de l :=
  costs_congr L de _ l (fun k hk => setAt_other _ i _ k (fun e => h (by rw [← e]; exact hk)))

theorem JSo.send (h : JSo s b) (hnd : (s.fresh ++ s.old).Nodup) (i : Nat) (x : Fm) (r : List Fm) (hq : s.q i = x :: r) (hf : ∀ id, (b'.fr id).soon = (b.fr id).soon) (hn : x.s.size ≤ s.c.length)
    (hb : s.busy = false) (hd : 0 < s.de i) (hh : (∃ F, s.fresh = i :: F) ∨ (s.fresh = [] ∧ ∃ O, s.old = i :: O)) : JSo (s.send i x.s.size r) b' := by
  have hcs := cost_send s.c.length x.s.size (s.de i) hd hn
  obtain ⟨nd1, nd2, nd3⟩ := List.nodup_append.1 hnd
  intro j hj pre y post hy hp
  rw [hf] at hp ⊢
  have hy' : setAt s.q i r j = pre ++ y :: post := hy
  by_cases e : j = i
  · subst e
    rw [setAt_same] at hy'
    obtain ⟨S, hS, hle⟩ := h j hj (x :: pre) y post (by rw [hq, hy']; rfl) hp
    refine ⟨S, ?_, Int.le_trans (Int.ofNat_le.2 (due_send s j j S S x.s.size _ _ r hb ?_ ?_)) hle⟩
    · rcases hS with ⟨A, B, hA, hS⟩ | ⟨A, B, hA, hS⟩
      · refine .inl ⟨A, B, hA, ?_⟩
        show S = costs s.c.length (setAt s.de j (s.de j - x.s.size)) A
        rw [costs_out _ _ _ _ _ (fun hm => by rw [hA] at nd1; exact (List.nodup_append.1 nd1).2.2 j hm j (by simp) rfl)]
        exact hS
      · refine .inr ⟨A, B, hA, ?_⟩
        show S = costs s.c.length (setAt s.de j (s.de j - x.s.size)) s.fresh + costs s.c.length (setAt s.de j (s.de j - x.s.size)) A + _
        rw [costs_out _ _ _ _ A (fun hm => by rw [hA] at nd2; exact (List.nodup_append.1 nd2).2.2 j hm j (by simp) rfl), costs_out _ _ _ _ s.fresh (fun hm => nd3 j hm j (by rw [hA]; simp) rfl)]
        exact hS
    · show x.s.size + (S + cost s.c.length (setAt s.de j (s.de j - x.s.size) j)) ≤ _
      rw [setAt_same]; omega
    · show tts s.c.quantum (setAt s.de j (s.de j - x.s.size) j) _ = _
      rw [setAt_same, tts_send, List.cons_append, qBytes_cons]
  · rw [setAt_other _ _ _ _ e] at hy'
    obtain ⟨S, hS, hle⟩ := h j hj pre y post hy' hp
    have hej : (s.send i x.s.size r).de j = s.de j := setAt_other _ _ _ _ e
    have key : ∃ S', IsS (s.send i x.s.size r) j S' ∧ x.s.size + S' ≤ S := by
      rcases hh with ⟨F, hF⟩ | ⟨hF, O, hO⟩
      · have hiF : i ∉ F := by rw [hF] at nd1; exact (List.nodup_cons.1 nd1).1
        have hiO : i ∉ s.old := fun hm => nd3 i (by rw [hF]; simp) i hm rfl
        rcases hS with ⟨A, B, hA, hS⟩ | ⟨A, B, hA, hS⟩
        · rcases A with _ | ⟨a, A⟩
          · rw [hF] at hA; simp at hA; exact absurd hA.1.symm e
          · have hA' := hA
            rw [hF] at hA'
            simp only [List.cons_append, List.cons.injEq] at hA'
            obtain ⟨rfl, hA'⟩ := hA'
            have hiA : i ∉ A := fun hm => hiF (by rw [hA']; simp [hm])
            refine ⟨_, .inl ⟨i :: A, B, hA, rfl⟩, ?_⟩
            show x.s.size + (cost s.c.length (setAt s.de i (s.de i - x.s.size) i) + costs s.c.length (setAt s.de i (s.de i - x.s.size)) A) ≤ S
            rw [setAt_same, costs_out _ _ _ _ A hiA, hS]
            show _ ≤ cost s.c.length (s.de i) + costs s.c.length s.de A
            omega
        · refine ⟨_, .inr ⟨A, B, hA, rfl⟩, ?_⟩
          show x.s.size + (costs s.c.length (setAt s.de i (s.de i - x.s.size)) s.fresh + costs s.c.length (setAt s.de i (s.de i - x.s.size)) A + s.c.V * (A.length + (s.c.buckets - (s.fresh.length + s.old.length)))) ≤ S
          rw [costs_out _ _ _ _ A (fun hm => hiO (by rw [hA]; simp [hm])), hS, hF]
          show x.s.size + ((cost s.c.length (setAt s.de i (s.de i - x.s.size) i) + costs s.c.length (setAt s.de i (s.de i - x.s.size)) F) + _ + _) ≤ (cost s.c.length (s.de i) + costs s.c.length s.de F) + _ + _
          rw [setAt_same, costs_out _ _ _ _ F hiF]
          omega
      · rcases hS with ⟨A, B, hA, hS⟩ | ⟨A, B, hA, hS⟩
        · rw [hF] at hA; simp at hA
        · rcases A with _ | ⟨a, A⟩
          · rw [hO] at hA; simp at hA; exact absurd hA.1.symm e
          · have hA' := hA
            rw [hO] at hA' nd2
            simp only [List.cons_append, List.cons.injEq] at hA'
            obtain ⟨rfl, hA'⟩ := hA'
            have hiA : i ∉ A := fun hm => (List.nodup_cons.1 nd2).1 (by rw [hA']; simp [hm])
            refine ⟨_, .inr ⟨i :: A, B, hA, rfl⟩, ?_⟩
            show x.s.size + (costs s.c.length (setAt s.de i (s.de i - x.s.size)) s.fresh + (cost s.c.length (setAt s.de i (s.de i - x.s.size) i) + costs s.c.length (setAt s.de i (s.de i - x.s.size)) A) + s.c.V * ((i :: A).length + (s.c.buckets - (s.fresh.length + s.old.length)))) ≤ S
            rw [setAt_same, costs_out _ _ _ _ A hiA, hS, hF]
            show x.s.size + (0 + (_ + _) + _) ≤ 0 + (cost s.c.length (s.de i) + costs s.c.length s.de A) + _
            omega
    obtain ⟨S', hS', hl⟩ := key
    refine ⟨S', hS', Int.le_trans (Int.ofNat_le.2 (due_send s i j S S' x.s.size _ _ r hb (by rw [hej]; omega) (by rw [hej]))) hle⟩

theorem due_less (s s' : St) (i S S' m : Nat) (hc : s'.c = s.c) (hb : s'.base = s.base) (hd : s'.de i = s.de i) (h : S' ≤ S) : due s' i S' m ≤ due s i S m := by
  unfold due
  rw [hc, hb, hd]
  exact Nat.add_le_add_left (Nat.mul_le_mul_right _ (by omega)) _

/-- A new bucket that comes first goes to the end of the old ones: of the others. -/
theorem IsS.moveF (m : Nat) (F : List Nat) (de : Nat → Int) (hF : s.fresh = m :: F) (hnd : (s.fresh ++ s.old).Nodup) (hde : ∀ j, j ≠ m → de j = s.de j) (i S : Nat) (hi : i ≠ m) (h : IsS s i S) : ∃ S', IsS (s.lists F (s.old ++ [m]) de) i S' ∧ S' ≤ S := by
  obtain ⟨nd1, nd2, nd3⟩ := List.nodup_append.1 hnd
  have hmF : m ∉ F := by rw [hF] at nd1; exact (List.nodup_cons.1 nd1).1
  have hmO : m ∉ s.old := fun hm => nd3 m (by rw [hF]; simp) m hm rfl
  rcases h with ⟨A, B, hA, hS⟩ | ⟨A, B, hA, hS⟩
  · rcases A with _ | ⟨a, A⟩
    · rw [hF] at hA; simp at hA; exact absurd hA.1.symm hi
    · rw [hF] at hA
      simp only [List.cons_append, List.cons.injEq] at hA
      obtain ⟨rfl, hA⟩ := hA
      refine ⟨_, .inl ⟨A, B, hA, rfl⟩, ?_⟩
      show costs s.c.length de A ≤ S
      rw [costs_congr s.c.length s.de de A (fun k hk => hde k (fun e => hmF (by rw [hA, ← e]; simp [hk]))), hS]
      show _ ≤ cost s.c.length (s.de m) + costs s.c.length s.de A
      omega
  · refine ⟨_, .inr ⟨A, B ++ [m], by show s.old ++ [m] = _; rw [hA]; simp, rfl⟩, ?_⟩
    show costs s.c.length de F + costs s.c.length de A + s.c.V * (A.length + (s.c.buckets - (F.length + (s.old ++ [m]).length))) ≤ S
    rw [costs_congr s.c.length s.de de A (fun k hk => hde k (fun e => hmO (by rw [hA, ← e]; simp [hk]))), costs_congr s.c.length s.de de F (fun k hk => hde k (fun e => hmF (by rw [← e]; exact hk))), hS, hF]
    show _ ≤ (cost s.c.length (s.de m) + costs s.c.length s.de F) + costs s.c.length s.de A + s.c.V * (A.length + (s.c.buckets - ((m :: F).length + s.old.length)))
    rw [show F.length + (s.old ++ [m]).length = (m :: F).length + s.old.length by simp; omega]
    omega

theorem IsS.moveO (m : Nat) (O : List Nat) (de : Nat → Int) (hF : s.fresh = []) (hO : s.old = m :: O) (hnd : (s.fresh ++ s.old).Nodup) (hde : ∀ j, j ≠ m → de j = s.de j) (i S : Nat) (hi : i ≠ m) (h : IsS s i S) : ∃ S', IsS (s.lists [] (O ++ [m]) de) i S' ∧ S' ≤ S := by
  obtain ⟨nd1, nd2, nd3⟩ := List.nodup_append.1 hnd
  have hmO : m ∉ O := by rw [hO] at nd2; exact (List.nodup_cons.1 nd2).1
  rcases h with ⟨A, B, hA, hS⟩ | ⟨A, B, hA, hS⟩
  · rw [hF] at hA; simp at hA
  · rcases A with _ | ⟨a, A⟩
    · rw [hO] at hA; simp at hA; exact absurd hA.1.symm hi
    · rw [hO] at hA
      simp only [List.cons_append, List.cons.injEq] at hA
      obtain ⟨rfl, hA⟩ := hA
      refine ⟨_, .inr ⟨A, B ++ [m], by show O ++ [m] = _; rw [hA]; simp, rfl⟩, ?_⟩
      show 0 + costs s.c.length de A + s.c.V * (A.length + (s.c.buckets - (0 + (O ++ [m]).length))) ≤ S
      rw [costs_congr s.c.length s.de de A (fun k hk => hde k (fun e => hmO (by rw [hA, ← e]; simp [hk]))), hS, hF, hO]
      show _ ≤ 0 + (cost s.c.length (s.de m) + costs s.c.length s.de A) + s.c.V * ((m :: A).length + (s.c.buckets - (0 + (m :: O).length)))
      have h1 : A.length + (s.c.buckets - (0 + (O ++ [m]).length)) ≤ (m :: A).length + (s.c.buckets - (0 + (m :: O).length)) := by simp
      have h2 := Nat.mul_le_mul_left s.c.V h1
      omega

theorem IsS.goO (m : Nat) (O : List Nat) (hF : s.fresh = []) (hO : s.old = m :: O) (hlen : s.fresh.length + s.old.length ≤ s.c.buckets) (i S : Nat) (hi : i ≠ m) (h : IsS s i S) : ∃ S', IsS (s.lists [] O s.de) i S' ∧ S' ≤ S := by
  rcases h with ⟨A, B, hA, hS⟩ | ⟨A, B, hA, hS⟩
  · rw [hF] at hA; simp at hA
  · rcases A with _ | ⟨a, A⟩
    · rw [hO] at hA; simp at hA; exact absurd hA.1.symm hi
    · rw [hO] at hA
      simp only [List.cons_append, List.cons.injEq] at hA
      obtain ⟨rfl, hA⟩ := hA
      refine ⟨_, .inr ⟨A, B, hA, rfl⟩, ?_⟩
      show 0 + costs s.c.length s.de A + s.c.V * (A.length + (s.c.buckets - (0 + O.length))) ≤ S
      rw [hS, hF, hO]
      rw [hF, hO] at hlen
      show _ ≤ 0 + (cost s.c.length (s.de m) + costs s.c.length s.de A) + s.c.V * ((m :: A).length + (s.c.buckets - (0 + (m :: O).length)))
      simp only [List.length_nil, List.length_cons] at hlen ⊢
      rw [show A.length + 1 + (s.c.buckets - (0 + (O.length + 1))) = A.length + (s.c.buckets - (0 + O.length)) by omega]
      omega

theorem IsS.goF (m : Nat) (F : List Nat) (hF : s.fresh = m :: F) (hO : s.old = []) (i S : Nat) (hi : i ≠ m) (h : IsS s i S) : ∃ S', IsS (s.lists F [] s.de) i S' ∧ S' ≤ S := by
  rcases h with ⟨A, B, hA, hS⟩ | ⟨A, B, hA, hS⟩
  · rcases A with _ | ⟨a, A⟩
    · rw [hF] at hA; simp at hA; exact absurd hA.1.symm hi
    · rw [hF] at hA
      simp only [List.cons_append, List.cons.injEq] at hA
      obtain ⟨rfl, hA⟩ := hA
      refine ⟨_, .inl ⟨A, B, hA, rfl⟩, ?_⟩
      show costs s.c.length s.de A ≤ S
      rw [hS]
      show _ ≤ cost s.c.length (s.de m) + costs s.c.length s.de A
      omega
  · rw [hO] at hA; simp at hA

/-- A bucket that has nothing leaves, or goes to the end. -/
theorem JSo.leave (h : JSo s b) (m : Nat) (F O : List Nat) (hq : s.q m = []) (hm : ∀ i S, i ≠ m → IsS s i S → ∃ S', IsS (s.lists F O s.de) i S' ∧ S' ≤ S) : JSo (s.lists F O s.de) b := by
  intro i hi pre x post hx hp
  have hne : i ≠ m := by
    intro e
    subst e
    have hx' : s.q i = pre ++ x :: post := hx
    rw [hq] at hx'
    simp at hx'
  obtain ⟨S, hS, hle⟩ := h i hi pre x post hx hp
  obtain ⟨S', hS', hl⟩ := hm i S hne hS
  exact ⟨S', hS', Int.le_trans (Int.ofNat_le.2 (due_less s _ i S S' _ rfl rfl rfl hl)) hle⟩

/-- The first bucket goes to the end, a quantum richer. -/
theorem JSo.turn (h : JSo s b) (hc : s.c.ok) (m : Nat) (hx1 : ∀ x ∈ s.q m, 1 ≤ x.s.size) (F O : List Nat) (hde : s.de m ≤ 0) (hde' : ∀ j ∈ F ++ O, setAt s.de m (s.de m + s.c.quantum) j ≤ s.c.quantum)
    (hlen : F.length + O.length ≤ s.c.buckets - 1) (hm : ∀ i S, i ≠ m → IsS s i S → ∃ S', IsS (s.lists F (O ++ [m]) (setAt s.de m (s.de m + s.c.quantum))) i S' ∧ S' ≤ S) :
    JSo (s.lists F (O ++ [m]) (setAt s.de m (s.de m + s.c.quantum))) b := by
  intro i hi pre x post hx hp
  have hx' : s.q i = pre ++ x :: post := hx
  obtain ⟨S, hS, hle⟩ := h i hi pre x post hx hp
  by_cases e : i = m
  · subst e
    refine ⟨_, .inr ⟨O, [], rfl, rfl⟩, Int.le_trans (Int.ofNat_le.2 ?_) hle⟩
    have h1 := costs_le s.c.length s.c.quantum (setAt s.de i (s.de i + s.c.quantum)) F (fun j hj => hde' j (by simp [hj]))
    have h2 := costs_le s.c.length s.c.quantum (setAt s.de i (s.de i + s.c.quantum)) O (fun j hj => hde' j (by simp [hj]))
    have h3 := cost_le s.c.length s.c.quantum (s.de i + s.c.quantum) (by omega)
    have hb1 := hc.b1
    have ht := tts_turn s.c.quantum (s.de i) (qBytes (pre ++ [x])) hc.q1 hde (by
      have := hx1 x (by rw [hx']; simp)
      rw [qBytes_snoc]; omega)
    unfold due
    show s.base + (costs s.c.length (setAt s.de i (s.de i + s.c.quantum)) F + costs s.c.length (setAt s.de i (s.de i + s.c.quantum)) O + s.c.V * (O.length + (s.c.buckets - (F.length + (O ++ [i]).length))) + cost s.c.length (setAt s.de i (s.de i + s.c.quantum) i) + s.c.M * tts s.c.quantum (setAt s.de i (s.de i + s.c.quantum) i) (qBytes (pre ++ [x]))) * s.c.tau ≤ s.base + (S + cost s.c.length (s.de i) + s.c.M * tts s.c.quantum (s.de i) (qBytes (pre ++ [x]))) * s.c.tau
    rw [setAt_same, ht, Nat.mul_add s.c.M]
    refine Nat.add_le_add_left (Nat.mul_le_mul_right _ ?_) _
    have hall : costs s.c.length (setAt s.de i (s.de i + s.c.quantum)) F + costs s.c.length (setAt s.de i (s.de i + s.c.quantum)) O + s.c.V * (O.length + (s.c.buckets - (F.length + (O ++ [i]).length))) + cost s.c.length (s.de i + s.c.quantum) ≤ s.c.M * 1 := by
      have e1 : F.length * s.c.V + O.length * s.c.V + s.c.V * (O.length + (s.c.buckets - (F.length + (O ++ [i]).length))) + s.c.V = s.c.V * (F.length + O.length + (O.length + (s.c.buckets - (F.length + (O ++ [i]).length))) + 1) := by
        simp only [Nat.mul_add, Nat.mul_one, Nat.mul_comm F.length s.c.V, Nat.mul_comm O.length s.c.V]
      have e2 : F.length + O.length + (O.length + (s.c.buckets - (F.length + (O ++ [i]).length))) + 1 ≤ 2 * s.c.buckets := by simp; omega
      have e3 := Nat.mul_le_mul (show s.c.V ≤ s.c.quantum + s.c.length by unfold Cf.V; omega) e2
      have e4 : (s.c.quantum + s.c.length) * (2 * s.c.buckets) = s.c.M := Nat.mul_comm _ _
      have e5 : s.c.quantum + s.c.length - 1 = s.c.V := rfl
      rw [e5] at h1 h2 h3
      omega
    omega
  · obtain ⟨S', hS', hl⟩ := hm i S e hS
    exact ⟨S', hS', Int.le_trans (Int.ofNat_le.2 (due_less s _ i S S' _ rfl rfl (setAt_other _ _ _ _ e) hl)) hle⟩

theorem JSo.time (h : JSo s b) (s' : St) (hc : s'.c = s.c) (hq : s'.q = s.q) (hf : s'.fresh = s.fresh) (ho : s'.old = s.old) (hd : s'.de = s.de) (hb : s'.base = s.base) : JSo s' b := by
  intro i hi pre x post hx hp
  rw [hc] at hi
  rw [hq] at hx
  obtain ⟨S, hS, hle⟩ := h i hi pre x post hx hp
  refine ⟨S, ?_, ?_⟩
  · unfold IsS at hS ⊢
    rw [hc, hf, ho, hd]; exact hS
  · unfold due at hle ⊢
    rw [hc, hd, hb]; exact hle

theorem JSo.waits (h : JSo s b) (hT : JT s b) (i : Nat) (hi : i < s.c.buckets) (pre : List Fm) (x : Fm) (post : List Fm) (hq : s.q i = pre ++ x :: post) (hp : 0 ≤ (b.fr x.id).soon) : (s.now : Int) ≤ (b.fr x.id).soon := by
  obtain ⟨S, _, hle⟩ := h i hi pre x post hq hp
  have h1 : s.now ≤ s.base := by
    unfold St.base
    split
    · rename_i hb; exact (hT.busy hb).2
    · exact Nat.le_refl _
  unfold due at hle
  generalize (S + cost s.c.length (s.de i) + s.c.M * tts s.c.quantum (s.de i) (qBytes (pre ++ [x]))) * s.c.tau = z at hle
  omega

end
end Go.Proofs.Ytnkicbopebgppaa

/-! All that book and port have in common, and the small steps. -/
namespace Go.Proofs.Ytnkicbopebgppaa
open Fl

structure J (hd : Nat) (s : St) (b : Bo) : Prop where
  jq : JQ s.c s.now s.ids s.q b
  jt : JT s b
  jl : hd = 2 → JL s.c.buckets b
  jf : hd = 8 ∨ hd = 16 → JF s b
  js : hd = 16 → JS s b
  ju : hd = 16 → JU s b
  ja : hd = 32 → JFa s b
  jo : hd = 64 → JSo s b

section
variable {hd : Nat} {s : St} {b : Bo}

theorem J.drop (h : J hd s b) (i : Nat) (hi : i < s.c.buckets) (x : Fm) (r : List Fm) (hq : s.q i = x :: r) (kind : Nat) (hk : 3 ≤ kind ∧ kind ≤ 5) (hfull : kind = 3 → ∀ j, j < s.c.buckets → qBytes (s.q j) ≤ qBytes (s.q i))
    (hdl : hd = 8 → kind = 4 → x.since + s.c.target ≤ s.now ∧ (b.fr x.id).first < 0 ∧ ¬ (s.c.ecn = true ∧ canB x.s = true)) :
    EvOk hd s.now b ⟨s.now, kind, x.id, i, x.s⟩ ∧ J hd (s.pop i r) (b.event ⟨s.now, kind, x.id, i, x.s⟩) := by
  have P := h.jq.plain i hi x r hq kind x.s rfl
  have k := b.event_keeps ⟨s.now, kind, x.id, i, x.s⟩
  obtain ⟨d1, d2, d3, d4, d5⟩ := b.event_drop ⟨s.now, kind, x.id, i, x.s⟩ hk.1
  have hx := h.jq.qs i hi x (by rw [hq]; simp)
  have hfs := fr_event k P.id
  refine ⟨⟨P.id, P.lo, P.hi, P.bu, ⟨by show 1 ≤ kind; omega, hk.2⟩, P.gone, P.last, P.sz, P.fit, P.since, P.small, fun e => ?_, fun _ e => ?_, fun _ e => ?_, fun _ _ => hx.s.symm, fun _ e => ?_, fun _ e => ?_, fun e e4 => ?_⟩, ⟨h.jq.pop i hi x r hq _ k rfl rfl rfl, h.jt.pop i x r hq d1 k.used d2, fun e => ?_, fun e => ?_, fun e => ?_, fun e => ?_, fun e => ?_, fun e => ?_⟩⟩
  · show (b.fr x.id).soon < 0 ∨ (s.now : Int) ≤ (b.fr x.id).soon
    by_cases hp : 0 ≤ (b.fr x.id).soon
    · exact .inr ((h.jo e).waits h.jt i hi [] x r hq hp)
    · exact .inl (by omega)
  · have e' : kind ≤ 2 := e
    omega
  · have e' : kind ≤ 2 := e
    omega
  · have e' : kind = 2 := e
    omega
  · have e' : kind = 2 := e
    omega
  · obtain ⟨a1, a2, a3⟩ := hdl e e4
    refine ⟨by rw [h.jq.on]; show (b.fr x.id).at_ + _ ≤ s.now; rw [hx.at_]; exact a1, a2, fun hab => a3 ⟨by rw [← h.jq.on]; exact hab.1, ?_⟩⟩
    have := h.jq.able x.id hx.lt hab.2
    rw [hx.s] at this
    exact this
  · refine (h.jl e).event k P.fit d5 (fun e3 j hj => ?_)
    rw [h.jq.size j hj, h.jq.size i hi]
    exact hfull e3 j hj
  · exact (h.jf e).pop i hi x r hq (fun id => (hfs id).1) s.de (fun _ _ => rfl) s.busy s.upto
  · exact (h.js e).drop (h.jf (.inr e)) i hi x r hq (fun id => (hfs id).1)
  · intro j hj
    rw [d4]
    exact h.ju e j hj
  · exact (h.ja e).drop i x r hq d3 k.pairs
  · exact (h.jo e).drop i x r hq (fun id => (hfs id).2)

/-- The first bucket of all. -/
def St.head (s : St) (i : Nat) : Prop := (∃ F, s.fresh = i :: F) ∨ (s.fresh = [] ∧ ∃ O, s.old = i :: O)

theorem St.head.mem {i : Nat} (h : s.head i) : i ∈ s.fresh ++ s.old := by
  rcases h with ⟨F, h⟩ | ⟨h1, O, h2⟩
  · rw [h]; simp
  · rw [h1, h2]; simp

theorem J.send (h : J hd s b) (i : Nat) (x : Fm) (r : List Fm) (hq : s.q i = x :: r) (hh : s.head i) (hb : s.busy = false) (hd0 : 0 < s.de i) (kind : Nat) (t : ByteArray)
    (hk : (kind = 1 ∧ t = x.s) ∨ (kind = 2 ∧ t = markOf x.s ∧ canB x.s = true ∧ s.c.ecn = true ∧ x.since + s.c.target ≤ s.now ∧ (hd = 8 → (b.fr x.id).first < 0))) :
    EvOk hd s.now b ⟨s.now, kind, x.id, i, t⟩ ∧ J hd (s.send i x.s.size r) (b.event ⟨s.now, kind, x.id, i, t⟩) := by
  have hi := h.jt.lt i hh.mem
  have ht : t.size = x.s.size := by
    rcases hk with ⟨_, e⟩ | ⟨_, e, _⟩
    · rw [e]
    · rw [e, markOf_size]
  have P := h.jq.plain i hi x r hq kind t ht
  have k := b.event_keeps ⟨s.now, kind, x.id, i, t⟩
  have hk2 : kind = 1 ∨ kind = 2 := by
    rcases hk with ⟨e, _⟩ | ⟨e, _⟩
    · exact .inl e
    · exact .inr e
  obtain ⟨d1, d2, d3, d4, d5⟩ := b.event_send ⟨s.now, kind, x.id, i, t⟩ hk2
  have hx := h.jq.qs i hi x (by rw [hq]; simp)
  simp only [hx.s, h.jq.on] at d1 d3
  have hfs := fr_event k P.id
  have htill := h.jt.idle hb
  refine ⟨⟨P.id, P.lo, P.hi, P.bu, ⟨by show 1 ≤ kind; omega, by show kind ≤ 5; omega⟩, P.gone, P.last, P.sz, P.fit, P.since, P.small, fun e => ?_, fun _ _ => htill, fun e _ => ?_, fun _ e => ?_, fun _ e => ?_, fun e e2 => ?_, fun _ e4 => ?_⟩, ⟨h.jq.pop i hi x r hq _ k rfl rfl rfl, h.jt.send i x r hq x.s.size hx.le hd0 d1 k.used, fun e => ?_, fun e => ?_, fun e => ?_, fun e => ?_, fun e => ?_, fun e => ?_⟩⟩
  · show (b.fr x.id).soon < 0 ∨ (s.now : Int) ≤ (b.fr x.id).soon
    by_cases hp : 0 ≤ (b.fr x.id).soon
    · exact .inr ((h.jo e).waits h.jt i hi [] x r hq hp)
    · exact .inl (by omega)
  · show (b.fr x.id).first < 0 ∨ (s.now : Int) ≤ (b.fr x.id).first
    by_cases hp : 0 ≤ (b.fr x.id).first
    · exact .inr ((h.js e).waits h.jt i hi x r hq hp)
    · exact .inl (by omega)
  · have e' : kind ≠ 2 := e
    rcases hk with ⟨_, e1⟩ | ⟨e1, _⟩
    · show t = (b.fr x.id).s
      rw [e1, hx.s]
    · exact absurd e1 e'
  · have e' : kind = 2 := e
    rcases hk with ⟨e1, _⟩ | ⟨_, e1, e2, _⟩
    · omega
    · show canB (b.fr x.id).s = true ∧ t = markOf (b.fr x.id).s
      rw [hx.s]
      exact ⟨e2, e1⟩
  · have e' : kind = 2 := e2
    rcases hk with ⟨e1, _⟩ | ⟨_, _, _, e3, e4, e5⟩
    · omega
    · show b.on.ecn = true ∧ (b.fr x.id).at_ + b.on.target ≤ s.now ∧ (b.fr x.id).first < 0
      rw [h.jq.on, hx.at_]
      exact ⟨e3, e4, e5 e⟩
  · have e' : kind = 4 := e4
    omega
  · refine (h.jl e).event k P.fit ?_ (fun e3 => ?_)
    · rw [d5, if_neg (by show ¬ kind = 3; omega)]
    · have e3' : kind = 3 := e3
      omega
  · exact (h.jf e).pop i hi x r hq (fun id => (hfs id).1) _ (fun j hj => setAt_other _ _ _ _ hj) true _
  · refine (h.js e).send (h.jf (.inr e)) h.jt.nd i hi x r hq (fun id => (hfs id).1) x.s.size hx.le hb hd0 ?_
    rcases hh with hF | ⟨hF, _⟩
    · exact .inr hF
    · exact .inl hF
  · exact (h.ju e).send i x.s.size r (by rw [d4]; simp only [hx.s])
  · exact (h.ja e).send i x.s.size x r hq d3 k.pairs
  · exact (h.jo e).send h.jt.nd i x r hq (fun id => (hfs id).2) hx.le hb hd0 hh

theorem J.setTm (h : J hd s b) (i : Nat) (v : Bool) (hi : i ∈ s.fresh ++ s.old) (hno : hd = 8 ∨ hd = 16 → ∀ x r, s.q i = x :: r → (b.fr x.id).first < 0) : J hd (s.setTm i v) b :=
  ⟨h.jq, h.jt.setTm i v hi, h.jl, fun e => (h.jf e).setTm i v (hno e), fun e => (h.js e).setTm i v, fun e => h.ju e, fun e => h.ja e, fun e => (h.jo e).time _ rfl rfl rfl rfl rfl rfl⟩

theorem J.ends (h : J hd s b) (hb : s.busy = true) : J hd s.ends b :=
  ⟨h.jq.later (h.jt.busy hb).2, h.jt.ends hb, h.jl, fun e => (h.jf e).time _ _, fun e => (h.js e).ends hb, fun e => h.ju e, fun e => h.ja e,
    fun e => (h.jo e).time _ rfl rfl rfl rfl rfl (by rw [St.base_idle _ (rfl : s.ends.busy = false), St.base_busy s hb]; rfl)⟩

theorem J.tick (h : J hd s b) (t : Nat) (h1 : s.now ≤ t) (h2 : s.busy = true → t ≤ s.upto) (h3 : s.busy = false → s.fresh = [] ∧ s.old = []) : J hd (s.tick t) b := by
  refine ⟨h.jq.later h1, h.jt.tick t h1 h2, h.jl, fun e => (h.jf e).time _ _, fun e => (h.js e).tick t ?_, fun e => h.ju e, fun e => h.ja e, fun e => ?_⟩
  · cases hb : s.busy with
    | true => exact .inl rfl
    | false => exact .inr (h3 hb).1
  · cases hb : s.busy with
    | true => exact (h.jo e).time _ rfl rfl rfl rfl rfl (by rw [St.base_busy (s.tick t) hb, St.base_busy s hb]; rfl)
    | false =>
      obtain ⟨hf, ho⟩ := h3 hb
      intro i hi pre x post hx _
      have := h.jt.listed i hi (by have hx' : s.q i = pre ++ x :: post := hx; rw [hx']; simp)
      rw [hf, ho] at this
      cases this

theorem len_le (h : JT s b) : s.fresh.length + s.old.length ≤ s.c.buckets := by
  have := nodup_len s.c.buckets (s.fresh ++ s.old) h.nd h.lt
  rw [List.length_append] at this
  exact this

/-- A bucket that owes turns to the end, a quantum richer. -/
theorem J.turnF (h : J hd s b) (m : Nat) (F : List Nat) (hF : s.fresh = m :: F) (hde : s.de m ≤ 0) : J hd (s.lists F (s.old ++ [m]) (setAt s.de m (s.de m + s.c.quantum))) b := by
  have hl : s.fresh ++ s.old = m :: (F ++ s.old) := by rw [hF]; rfl
  have hl' : F ++ (s.old ++ [m]) = (F ++ s.old) ++ [m] := by simp
  have hmem : ∀ j, j ∈ F ++ (s.old ++ [m]) ↔ j ∈ s.fresh ++ s.old := by
    intro j; rw [hl, hl', List.mem_append, List.mem_singleton, List.mem_cons]; exact or_comm
  have hnd := h.jt.nd
  rw [hl] at hnd
  obtain ⟨hm, hnd'⟩ := List.nodup_cons.1 hnd
  have hdem := h.jt.de m (by rw [hl]; simp)
  have hdes : ∀ j ∈ F ++ (s.old ++ [m]), 1 - (s.c.length : Int) ≤ setAt s.de m (s.de m + s.c.quantum) j ∧ setAt s.de m (s.de m + s.c.quantum) j ≤ s.c.quantum := by
    intro j hj
    by_cases e : j = m
    · subst e; rw [setAt_same]; omega
    · rw [setAt_other _ _ _ _ e]; exact h.jt.de j ((hmem j).1 hj)
  have hno : hd = 8 ∨ hd = 16 → ∀ x r, s.q m = x :: r → (b.fr x.id).first < 0 := by
    intro e x r hq
    have h1 := (h.jf e m (h.jt.lt m (by rw [hl]; simp)) x r hq).1
    have hq1 := h.jq.cok.q1
    by_cases hp : 0 ≤ (b.fr x.id).first
    · have := (h1 hp).2.2; omega
    · omega
  refine ⟨h.jq, h.jt.lists _ _ _ (fun j hj => (hmem j).1 hj) (fun j hj hn => absurd ((hmem j).2 hj) hn) ?_ hdes, h.jl, fun e => (h.jf e).listsF m F _ _ hF (hno e) (fun j hj => setAt_other _ _ _ _ hj), fun e => (h.js e).listsF h.jt.nd m F _ _ hF (hno (.inr e)) (fun j hj => setAt_other _ _ _ _ hj), fun e => (h.ju e).lists _ _ _ (fun j hj => ⟨by rw [hF]; simp [hj], setAt_other _ _ _ _ (fun e => hm (by rw [← e]; simp [hj]))⟩),
    fun e => (h.ja e).turn m _ _ _ hl hl' h.jt.nd, fun e => ?_⟩
  · rw [hl']
    exact List.nodup_append.2 ⟨hnd', by simp, fun a ha c hc e => hm (by simp at hc; rw [← hc, ← e]; exact ha)⟩
  · have hlen := len_le h.jt
    rw [hF] at hlen
    simp only [List.length_cons] at hlen
    exact (h.jo e).turn h.jq.cok m (fun x hx => (h.jq.qs m (h.jt.lt m (by rw [hl]; simp)) x hx).one) F s.old hde (fun j hj => (hdes j (by rw [← List.append_assoc]; exact List.mem_append_left _ hj)).2) (by omega) (fun i S hi hS => IsS.moveF m F _ hF h.jt.nd (fun j hj => setAt_other _ _ _ _ hj) i S hi hS)

theorem J.turnO (h : J hd s b) (m : Nat) (O : List Nat) (hF : s.fresh = []) (hO : s.old = m :: O) (hde : s.de m ≤ 0) : J hd (s.lists [] (O ++ [m]) (setAt s.de m (s.de m + s.c.quantum))) b := by
  have hl : s.fresh ++ s.old = m :: O := by rw [hF, hO]; rfl
  have hl' : ([] : List Nat) ++ (O ++ [m]) = O ++ [m] := rfl
  have hmem : ∀ j, j ∈ [] ++ (O ++ [m]) ↔ j ∈ s.fresh ++ s.old := by
    intro j; rw [hl, hl']; simp; exact or_comm
  have hnd := h.jt.nd
  rw [hl] at hnd
  obtain ⟨hm, hnd'⟩ := List.nodup_cons.1 hnd
  have hdem := h.jt.de m (by rw [hl]; simp)
  have hdes : ∀ j ∈ [] ++ (O ++ [m]), 1 - (s.c.length : Int) ≤ setAt s.de m (s.de m + s.c.quantum) j ∧ setAt s.de m (s.de m + s.c.quantum) j ≤ s.c.quantum := by
    intro j hj
    by_cases e : j = m
    · subst e; rw [setAt_same]; omega
    · rw [setAt_other _ _ _ _ e]; exact h.jt.de j ((hmem j).1 hj)
  refine ⟨h.jq, h.jt.lists _ _ _ (fun j hj => (hmem j).1 hj) (fun j hj hn => absurd ((hmem j).2 hj) hn) ?_ hdes, h.jl, fun e => (h.jf e).listsO _ _ hF, fun e => (h.js e).listsO _ _ hF, fun e => (h.ju e).lists _ _ _ (fun j hj => by cases hj),
    fun e => (h.ja e).turn m _ _ _ hl hl' h.jt.nd, fun e => ?_⟩
  · rw [hl']
    exact List.nodup_append.2 ⟨hnd', by simp, fun a ha c hc e => hm (by simp at hc; rw [← hc, ← e]; exact ha)⟩
  · have hlen := len_le h.jt
    rw [hF, hO] at hlen
    simp only [List.length_cons, List.length_nil] at hlen
    exact (h.jo e).turn h.jq.cok m (fun x hx => (h.jq.qs m (h.jt.lt m (by rw [hl]; simp)) x hx).one) [] O hde (fun j hj => (hdes j (by simp at hj; simp [hj])).2) (by simp only [List.length_nil]; omega) (fun i S hi hS => IsS.moveO m O _ hF hO h.jt.nd (fun j hj => setAt_other _ _ _ _ hj) i S hi hS)

/-- A bucket that has nothing: a new one goes to the end of the old, if there are such. -/
theorem J.leaveFO (h : J hd s b) (m : Nat) (F : List Nat) (hF : s.fresh = m :: F) (hq : s.q m = []) : J hd (s.lists F (s.old ++ [m]) s.de) b := by
  have hl : s.fresh ++ s.old = m :: (F ++ s.old) := by rw [hF]; rfl
  have hl' : F ++ (s.old ++ [m]) = (F ++ s.old) ++ [m] := by simp
  have hmem : ∀ j, j ∈ F ++ (s.old ++ [m]) ↔ j ∈ s.fresh ++ s.old := by
    intro j; rw [hl, hl', List.mem_append, List.mem_singleton, List.mem_cons]; exact or_comm
  have hnd := h.jt.nd
  rw [hl] at hnd
  obtain ⟨hm, hnd'⟩ := List.nodup_cons.1 hnd
  have hno : ∀ x r, s.q m = x :: r → (b.fr x.id).first < 0 := fun x r e => by rw [hq] at e; cases e
  refine ⟨h.jq, h.jt.lists _ _ _ (fun j hj => (hmem j).1 hj) (fun j hj hn => absurd ((hmem j).2 hj) hn) ?_ (fun j hj => h.jt.de j ((hmem j).1 hj)), h.jl, fun e => (h.jf e).listsF m F _ _ hF hno (fun _ _ => rfl), fun e => (h.js e).listsF h.jt.nd m F _ _ hF hno (fun _ _ => rfl), fun e => (h.ju e).lists _ _ _ (fun j hj => ⟨by rw [hF]; simp [hj], rfl⟩),
    fun e => (h.ja e).leave m _ _ _ hl (by rw [hl']; exact List.sublist_append_left _ _) hq, fun e => (h.jo e).leave m _ _ hq (fun i S hi hS => IsS.moveF m F _ hF h.jt.nd (fun _ _ => rfl) i S hi hS)⟩
  rw [hl']
  exact List.nodup_append.2 ⟨hnd', by simp, fun a ha c hc e => hm (by simp at hc; rw [← hc, ← e]; exact ha)⟩

theorem J.leaveF (h : J hd s b) (m : Nat) (F : List Nat) (hF : s.fresh = m :: F) (hO : s.old = []) (hq : s.q m = []) (htm : s.tm m = false) : J hd (s.lists F [] s.de) b := by
  have hl : s.fresh ++ s.old = m :: F := by rw [hF, hO]; simp
  have hl' : F ++ [] = F := by simp
  have hnd := h.jt.nd
  rw [hl] at hnd
  obtain ⟨hm, hnd'⟩ := List.nodup_cons.1 hnd
  have hno : ∀ x r, s.q m = x :: r → (b.fr x.id).first < 0 := fun x r e => by rw [hq] at e; cases e
  have hsub : ∀ j ∈ F ++ [], j ∈ s.fresh ++ s.old := fun j hj => by rw [hl]; rw [hl'] at hj; simp [hj]
  refine ⟨h.jq, h.jt.lists _ _ _ hsub (fun j hj hn => ?_) (by rw [hl']; exact hnd') (fun j hj => h.jt.de j (hsub j hj)), h.jl, fun e => (h.jf e).listsF m F _ _ hF hno (fun _ _ => rfl), fun e => (h.js e).listsF h.jt.nd m F _ _ hF hno (fun _ _ => rfl), fun e => (h.ju e).lists _ _ _ (fun j hj => ⟨by rw [hF]; simp [hj], rfl⟩),
    fun e => (h.ja e).leave m _ _ _ hl (by rw [hl']; exact List.Sublist.refl _) hq, fun e => (h.jo e).leave m _ _ hq (fun i S hi hS => IsS.goF m F hF hO i S hi hS)⟩
  rw [hl] at hj
  rw [hl'] at hn
  rcases List.mem_cons.1 hj with e | e
  · subst e; exact ⟨hq, htm⟩
  · exact absurd e hn

theorem J.leaveO (h : J hd s b) (m : Nat) (O : List Nat) (hF : s.fresh = []) (hO : s.old = m :: O) (hq : s.q m = []) (htm : s.tm m = false) : J hd (s.lists [] O s.de) b := by
  have hl : s.fresh ++ s.old = m :: O := by rw [hF, hO]; rfl
  have hnd := h.jt.nd
  rw [hl] at hnd
  obtain ⟨hm, hnd'⟩ := List.nodup_cons.1 hnd
  have hsub : ∀ j ∈ [] ++ O, j ∈ s.fresh ++ s.old := fun j hj => by rw [hl]; simp at hj; simp [hj]
  refine ⟨h.jq, h.jt.lists _ _ _ hsub (fun j hj hn => ?_) hnd' (fun j hj => h.jt.de j (hsub j hj)), h.jl, fun e => (h.jf e).listsO _ _ hF, fun e => (h.js e).listsO _ _ hF, fun e => (h.ju e).lists _ _ _ (fun j hj => by cases hj),
    fun e => (h.ja e).leave m _ _ _ hl (List.Sublist.refl _) hq, fun e => (h.jo e).leave m _ _ hq (fun i S hi hS => IsS.goO m O hF hO (len_le h.jt) i S hi hS)⟩
  rw [hl] at hj
  rcases List.mem_cons.1 hj with e | e
  · subst e; exact ⟨hq, htm⟩
  · exact absurd (by simpa using e) hn

end
end Go.Proofs.Ytnkicbopebgppaa

/-! What a bucket gives up. -/
namespace Go.Proofs.Ytnkicbopebgppaa
open Fl

/-- What more is known of a frame's taking. -/
structure TakeMore (k : Bk) (c : Cf) (now : Nat) (f : Fm) (fd late : Bool) (k1 : Bk) : Prop where
  yes : fd = true → k.q = f :: k1.q
  no : fd = false → k.q = [] ∧ k1.q = [] ∧ late = false ∧ k1.timed = false
  late : late = true → fd = true ∧ f.since + c.target ≤ now ∧ k.timed = true
  dropping : k1.dropping = k.dropping

theorem Bk.take_more (k : Bk) (c : Cf) (now : Nat) : TakeMore k c now (k.take c now).1 (k.take c now).2.1 (k.take c now).2.2.1 (k.take c now).2.2.2 := by
  rcases hq : k.q with _ | ⟨f, l⟩
  · have hd : k.drop = (noFm, false, k) := by unfold Bk.drop; rw [hq]
    have e := k.take_a c now (.inl (by rw [hd]))
    rw [e, hd]
    exact ⟨fun h => by simp at h, fun _ => ⟨hq, hq, rfl, rfl⟩, fun h => by simp at h, rfl⟩
  · have hd : k.drop = (f, true, { k with q := l }) := by unfold Bk.drop; rw [hq]
    by_cases hA : k.drop.2.1 = false ∨ now < k.drop.1.since + c.target ∨ qBytes k.drop.2.2.q ≤ c.length
    · have e := k.take_a c now hA
      rw [e, hd]
      exact ⟨fun _ => hq, fun h => by simp at h, fun h => by simp at h, rfl⟩
    · by_cases hB : k.drop.2.2.timed = false
      · have e := k.take_b c now hA hB
        rw [e, hd]
        exact ⟨fun _ => hq, fun h => by simp at h, fun h => by simp at h, rfl⟩
      · have e := k.take_c c now hA hB
        rw [e, hd]
        rw [hd] at hA hB
        have hB' : k.timed = true := by
          have : ¬ k.timed = false := hB
          simpa using this
        have hA' : ¬ now < f.since + c.target := fun h => hA (.inr (.inl h))
        exact ⟨fun _ => hq, fun h => by simp at h, fun _ => ⟨rfl, (by show f.since + c.target ≤ now; omega), hB'⟩, rfl⟩

/-- What a bucket that gives up a frame comes to. -/
structure GvIs (q : List Fm) (c : Cf) (now : Nat) (R : Bk × List Fm × Fm × Bool × Bool) : Prop where
  yes : R.2.2.2.1 = true → ∃ x, q = R.2.1 ++ x :: R.1.q ∧ R.2.2.1 = (if R.2.2.2.2 = true then x.mark else x) ∧ (R.2.2.2.2 = true → marksB c x = true ∧ x.since + c.target ≤ now)
  no : R.2.2.2.1 = false → q = R.2.1 ∧ R.1.q = [] ∧ R.1.timed = false
  late : ∀ y ∈ R.2.1, y.since + c.target ≤ now ∧ marksB c y = false

theorem GvIs.one {q : List Fm} {c : Cf} {now : Nat} {k : Bk} {d : List Fm} {f : Fm} (hq : q = d ++ f :: k.q) (hl : ∀ y ∈ d, y.since + c.target ≤ now ∧ marksB c y = false) : GvIs q c now (k, d, f, true, false) :=
  ⟨fun _ => ⟨f, hq, rfl, fun h => by simp at h⟩, fun h => by simp at h, hl⟩
theorem GvIs.marked {q : List Fm} {c : Cf} {now : Nat} {k : Bk} {d : List Fm} {f fm : Fm} (hfm : fm = f.mark) (hq : q = d ++ f :: k.q) (hl : ∀ y ∈ d, y.since + c.target ≤ now ∧ marksB c y = false) (hm : marksB c f = true) (ht : f.since + c.target ≤ now) : GvIs q c now (k, d, fm, true, true) :=
  ⟨fun _ => ⟨f, hq, hfm, fun _ => ⟨hm, ht⟩⟩, fun h => by simp at h, hl⟩
theorem GvIs.none {q : List Fm} {c : Cf} {now : Nat} {k : Bk} {d : List Fm} {f : Fm} {m : Bool} (hq : q = d) (hk : k.q = []) (ht : k.timed = false) (hl : ∀ y ∈ d, y.since + c.target ≤ now ∧ marksB c y = false) : GvIs q c now (k, d, f, false, m) :=
  ⟨fun h => by simp at h, fun _ => ⟨hq, hk, ht⟩, hl⟩

theorem goOnTo_gv (c : Cf) (now : Nat) : ∀ (m : Nat) (k : Bk) (d : List Fm) (f : Fm) (q : List Fm), k.q.length < m → q = d ++ f :: k.q → (∀ y ∈ d, y.since + c.target ≤ now ∧ marksB c y = false) → (k.dropping = true → f.since + c.target ≤ now) →
    GvIs q c now (goOnTo c now m k d f true) := by
  intro m
  induction m with
  | zero => intro k d f q h; omega
  | succ m ih =>
    intro k d f q hm hq hl hf
    by_cases hg : k.dropping = true ∧ k.next ≤ now
    · by_cases hmk : marksB c f = true
      · rw [goOnTo_mark c now m k d f true hg hmk]
        exact GvIs.marked rfl hq hl hmk (hf hg.1)
      · have T := Bk.take_more { k with count := k.count + 1 } c now
        rcases ht : ({ k with count := k.count + 1 } : Bk).take c now with ⟨f2, fd2, late2, k2⟩
        rw [ht] at T
        have hl2 : ∀ y ∈ d ++ [f], y.since + c.target ≤ now ∧ marksB c y = false := by
          intro y hy
          rcases List.mem_append.1 hy with hy | hy
          · exact hl y hy
          · rw [List.mem_singleton] at hy
            rw [hy]
            exact ⟨hf hg.1, by simpa using hmk⟩
        cases hfd : fd2 with
        | false =>
          obtain ⟨e1, e2, e3, e4⟩ := T.no hfd
          simp only at e1 e2 e3 e4
          subst e3
          rw [goOnTo_calm c now m k k2 d f f2 true fd2 hg hmk ht]
          rw [goOnTo_stop _ _ _ _ _ _ _ (by simp), hfd]
          exact GvIs.none (by rw [hq, e1]) e2 e4 hl2
        | true =>
          have e1 : k.q = f2 :: k2.q := T.yes hfd
          have hq2 : q = (d ++ [f]) ++ f2 :: k2.q := by rw [hq, e1]; simp
          have hlen : k2.q.length + 1 = k.q.length := by rw [e1]; simp
          cases late2 with
          | true =>
            rw [goOnTo_late c now m k k2 d f f2 true fd2 hg hmk ht, hfd]
            exact ih _ _ _ _ (by show k2.q.length < m; omega) hq2 hl2 (fun _ => (T.late rfl).2.1)
          | false =>
            rw [goOnTo_calm c now m k k2 d f f2 true fd2 hg hmk ht, hfd]
            exact ih _ _ _ _ (by show k2.q.length < m; omega) hq2 hl2 (fun h => by simp at h)
    · rw [goOnTo_stop c now _ k d f true hg]
      exact GvIs.one hq hl

theorem Bk.giveUp_gv (k : Bk) (c : Cf) (now : Nat) : GvIs k.q c now (k.giveUp c now) ∧ (k.timed = false → (k.giveUp c now).2.1 = [] ∧ (k.giveUp c now).2.2.2.2 = false) := by
  have T := k.take_more c now
  unfold Bk.giveUp
  rcases ht : k.take c now with ⟨f, fd, late, k1⟩
  rw [ht] at T
  simp only at T ⊢
  cases late with
  | false =>
    rw [if_pos rfl]
    refine ⟨?_, fun _ => ⟨rfl, rfl⟩⟩
    cases hfd : fd with
    | false =>
      obtain ⟨e1, e2, _, e4⟩ := T.no hfd
      exact GvIs.none e1 e2 e4 (by simp)
    | true => exact GvIs.one (T.yes hfd) (by simp)
  | true =>
    obtain ⟨hfd, hlt, htm⟩ := T.late rfl
    have e1 := T.yes hfd
    subst hfd
    rw [if_neg (by simp)]
    have hnt : ¬ k.timed = false := by rw [htm]; simp
    refine ⟨?_, fun h => absurd h hnt⟩
    by_cases hd : k1.dropping = true
    · rw [if_pos hd]
      exact goOnTo_gv c now _ k1 [] f k.q (by omega) e1 (by simp) (fun _ => hlt)
    · rw [if_neg hd]
      by_cases hm : marksB c f = true
      · rw [if_pos hm]
        exact GvIs.marked (k := k1.starts c now) rfl e1 (by simp) hm hlt
      · rw [if_neg hm]
        have T2 := k1.take_more c now
        rcases ht2 : k1.take c now with ⟨f2, fd2, late2, k2⟩
        rw [ht2] at T2
        simp only at T2 ⊢
        have hl2 : ∀ y ∈ [f], y.since + c.target ≤ now ∧ marksB c y = false := by
          intro y hy
          rw [List.mem_singleton] at hy
          rw [hy]
          exact ⟨hlt, by simpa using hm⟩
        cases hfd2 : fd2 with
        | false =>
          obtain ⟨e3, e4, _, e6⟩ := T2.no hfd2
          exact GvIs.none (k := k2.starts c now) (by rw [e1, e3]) e4 e6 hl2
        | true => exact GvIs.one (k := k2.starts c now) (by rw [e1, T2.yes hfd2]; rfl) hl2

end Go.Proofs.Ytnkicbopebgppaa

/-! The port's own steps out of the small ones: shedding, feeding. -/
namespace Go.Proofs.Ytnkicbopebgppaa
open Fl

/-- A port goes on, and the book with it: l is what happens. -/
structure Tr (hd N : Nat) (p : Pt) (b : Bo) (p' : Pt) (l : List Ev) : Prop where
  done : p'.done = p.done ++ l
  ok : EvsOk hd N b l
  j : J hd p'.st (b.events l)
  sub : ∀ i, ∀ x ∈ (p'.bk i).q, x ∈ (p.bk i).q
  src : ∀ e ∈ l, ∃ x ∈ (p.bk e.b).q, x.id = e.id

theorem Tr.trans {hd N : Nat} {p p1 p2 : Pt} {b : Bo} {l m : List Ev} (h : Tr hd N p b p1 l) (k : Tr hd N p1 (b.events l) p2 m) : Tr hd N p b p2 (l ++ m) :=
  ⟨by rw [k.done, h.done, List.append_assoc], h.ok.append k.ok, by rw [Bo.events_append]; exact k.j, fun i x hx => h.sub i x (k.sub i x hx), fun e he => by
    rcases List.mem_append.1 he with he | he
    · exact h.src e he
    · obtain ⟨x, hx, hid⟩ := k.src e he
      exact ⟨x, h.sub _ x hx, hid⟩⟩
theorem Tr.later {hd N N' : Nat} {p p1 : Pt} {b : Bo} {l : List Ev} (h : Tr hd N p b p1 l) (hn : N ≤ N') : Tr hd N' p b p1 l := ⟨h.done, h.ok.later hn, h.j, h.sub, h.src⟩
theorem Tr.none {hd N : Nat} {p p1 : Pt} {b : Bo} (hd1 : p1.done = p.done) (hbk : p1.bk = p.bk) (h : J hd p1.st b) : Tr hd N p b p1 [] := ⟨by rw [hd1, List.append_nil], trivial, h, fun i x hx => by rw [← hbk]; exact hx, fun e he => by cases he⟩

theorem EvsOk.one {hd N : Nat} {b : Bo} {e : Ev} (h : EvOk hd N b e) : EvsOk hd N b [e] := ⟨h, trivial⟩
theorem J.of_eq {hd : Nat} {s t : St} {b : Bo} (h : J hd s b) (e : s = t) : J hd t b := e ▸ h

theorem setAt_self {α : Type} (g : Nat → α) (i : Nat) (v : α) (h : v = g i) : setAt g i v = g := by
  funext j
  by_cases e : j = i
  · subst e; rw [setAt_same, h]
  · rw [setAt_other _ _ _ _ e]
theorem setAt_twice {α : Type} (g : Nat → α) (i : Nat) (u v : α) : setAt (setAt g i u) i v = setAt g i v := by
  funext j
  by_cases e : j = i
  · subst e; rw [setAt_same, setAt_same]
  · rw [setAt_other _ _ _ _ e, setAt_other _ _ _ _ e, setAt_other _ _ _ _ e]

theorem St.eq {s t : St} (h1 : s.c = t.c) (h2 : s.now = t.now) (h3 : s.busy = t.busy) (h4 : s.upto = t.upto) (h5 : s.q = t.q) (h6 : s.tm = t.tm) (h7 : s.fresh = t.fresh) (h8 : s.old = t.old) (h9 : s.de = t.de) (h10 : s.ids = t.ids) : s = t := by
  cases s; cases t
  simp only at h1 h2 h3 h4 h5 h6 h7 h8 h9 h10
  subst h1 h2 h3 h4 h5 h6 h7 h8 h9 h10
  rfl

theorem put_q (p : Pt) (i : Nat) (k : Bk) : (fun j => ((p.put i k).bk j).q) = setAt (fun j => (p.bk j).q) i k.q := by
  funext j
  show (if j = i then k else p.bk j).q = if j = i then k.q else (p.bk j).q
  split <;> rfl
theorem put_tm (p : Pt) (i : Nat) (k : Bk) : (fun j => ((p.put i k).bk j).timed) = setAt (fun j => (p.bk j).timed) i k.timed := by
  funext j
  show (if j = i then k else p.bk j).timed = if j = i then k.timed else (p.bk j).timed
  split <;> rfl

theorem Tr.shedOnce {hd : Nat} {p : Pt} {b : Bo} (h : J hd p.st b) (hok : p.ok) (hp : 0 < p.frames) : ∃ l, Tr hd p.now p b p.shedOnce l := by
  obtain ⟨hb, hq⟩ := p.fullest_is hok hp
  obtain ⟨x, r, hx⟩ : ∃ f l, (p.bk p.fullest).q = f :: l := by
    rcases hx : (p.bk p.fullest).q with _ | ⟨f, l⟩
    · exact absurd hx hq
    · exact ⟨f, l, rfl⟩
  have hd1 : (p.bk p.fullest).drop = (x, true, { p.bk p.fullest with q := r }) := by unfold Bk.drop; rw [hx]
  have hF := fullTo_is p.bk p.c.buckets
  have hfull : ∀ j, j < p.c.buckets → qBytes (p.bk j).q ≤ qBytes (p.bk p.fullest).q := by
    intro j hj
    have h1 := hF.all j hj
    by_cases h0 : 0 < (fullTo p.bk p.c.buckets).2
    · have := (hF.at_ h0).2.1
      show _ ≤ qBytes (p.bk (fullTo p.bk p.c.buckets).1).q
      omega
    · omega
  obtain ⟨e1, e2⟩ := J.drop h p.fullest hb x r hx 3 ⟨by omega, by omega⟩ (fun _ j hj => hfull j hj) (fun _ e => by omega)
  refine ⟨[⟨p.now, 3, x.id, p.fullest, x.s⟩], ?_, ⟨e1, trivial⟩, ?_, fun i y hy => ?_, fun e he => ?_⟩
  · show p.done ++ [(p.bk p.fullest).drop.1].map _ = _
    rw [hd1]; rfl
  · have es : p.shedOnce.st = p.st.pop p.fullest r := by
      refine St.eq rfl rfl rfl rfl ?_ ?_ rfl rfl rfl rfl
      · show (fun j => ((p.put p.fullest (p.bk p.fullest).drop.2.2).bk j).q) = setAt p.st.q p.fullest r
        rw [put_q, hd1]; rfl
      · show (fun j => ((p.put p.fullest (p.bk p.fullest).drop.2.2).bk j).timed) = p.st.tm
        rw [put_tm, hd1]
        exact setAt_self _ _ _ rfl
    rw [es]
    exact e2
  · have hy' : y ∈ (fun j => ((p.put p.fullest (p.bk p.fullest).drop.2.2).bk j).q) i := hy
    rw [put_q, hd1] at hy'
    by_cases ei : i = p.fullest
    · rw [ei, setAt_same] at hy'
      rw [ei, hx]; simp [show y ∈ r from hy']
    · rw [setAt_other _ _ _ _ ei] at hy'
      exact hy'
  · rw [List.mem_singleton] at he
    rw [he]
    exact ⟨x, by show x ∈ (p.bk p.fullest).q; rw [hx]; simp, rfl⟩

theorem Tr.sheds {hd : Nat} : ∀ (n : Nat) {p : Pt} {b : Bo}, J hd p.st b → p.ok → ∃ l, Tr hd p.now p b (Pt.sheds n p) l
  | 0, p, b, h, _ => ⟨[], Tr.none rfl rfl h⟩
  | n + 1, p, b, h, hok => by
    rw [Pt.sheds]
    by_cases ht : p.tooMuch = true
    · rw [if_pos ht]
      have hp := p.frames_pos hok ht
      obtain ⟨l, h1⟩ := Tr.shedOnce h hok hp
      obtain ⟨m, h2⟩ := Tr.sheds n h1.j (p.shedOnce_ok hok hp).1
      exact ⟨l ++ m, h1.trans h2⟩
    · rw [if_neg ht]
      exact ⟨[], Tr.none rfl rfl h⟩

/-- Frames that are dropped for their delay. -/
theorem J.drops {hd : Nat} (i : Nat) (rest : List Fm) : ∀ (d : List Fm) {s : St} {b : Bo}, J hd s b → i < s.c.buckets → s.q i = d ++ rest → (hd = 8 → ∀ y ∈ d, y.since + s.c.target ≤ s.now ∧ (b.fr y.id).first < 0 ∧ ¬ (s.c.ecn = true ∧ canB y.s = true)) →
    EvsOk hd s.now b (d.map (fun f => ⟨s.now, 4, f.id, i, f.s⟩)) ∧ J hd (s.pop i rest) (b.events (d.map (fun f => ⟨s.now, 4, f.id, i, f.s⟩)))
  | [], s, b, h, _, hq, _ => by
    refine ⟨trivial, ?_⟩
    have : s.pop i rest = s := St.eq rfl rfl rfl rfl (setAt_self _ _ _ (by rw [hq]; rfl)) rfl rfl rfl rfl rfl
    rw [this]
    exact h
  | y :: d, s, b, h, hi, hq, hdl => by
    obtain ⟨e1, e2⟩ := h.drop i hi y (d ++ rest) hq 4 ⟨by omega, by omega⟩ (fun e => by omega) (fun e _ => hdl e y (by simp))
    have hq2 : (s.pop i (d ++ rest)).q i = d ++ rest := setAt_same _ _ _
    obtain ⟨e3, e4⟩ := J.drops i rest d e2 hi hq2 (fun e z hz => by
      obtain ⟨a1, a2, a3⟩ := hdl e z (by simp [hz])
      exact ⟨a1, by rw [(fr_event (b.event_keeps _) e1.id z.id).1]; exact a2, a3⟩)
    refine ⟨⟨e1, e3⟩, ?_⟩
    have : (s.pop i (d ++ rest)).pop i rest = s.pop i rest := St.eq rfl rfl rfl rfl (setAt_twice _ _ _ _) rfl rfl rfl rfl rfl
    rw [this] at e4
    exact e4

theorem events_fr {hd N : Nat} : ∀ (l : List Ev) {b : Bo}, EvsOk hd N b l → ∀ id, ((b.events l).fr id).first = (b.fr id).first
  | [], b, _, id => rfl
  | e :: l, b, h, id => by
    rw [Bo.events_cons, events_fr l h.2 id]
    exact (fr_event (b.event_keeps e) h.1.id id).1

theorem first_head (p : Pt) (i : Nat) (h : p.tn.first = (i, true)) : p.st.head i := by
  rcases p.tn.first_cases with ⟨h1, _⟩ | ⟨x, l, h1, h2, _⟩ | ⟨x, l, h1, h2, h3, _⟩
  · rw [h] at h1; cases h1
  · rw [h] at h2
    injection h2 with e
    exact .inl ⟨l, by show p.tn.fresh = _; rw [h1, e]⟩
  · rw [h] at h3
    injection h3 with e
    exact .inr ⟨h1, l, by show p.tn.old = _; rw [h2, e]⟩

theorem head_leave {hd : Nat} {s : St} {b : Bo} (h : J hd s b) (t : Tn) (i : Nat) (ht : t.fresh = s.fresh ∧ t.old = s.old ∧ t.deficit = s.de) (hf : t.first = (i, true)) (hq : s.q i = []) (htm : s.tm i = false) : J hd (s.lists t.leave.fresh t.leave.old t.leave.deficit) b := by
  obtain ⟨t1, t2, t3⟩ := ht
  unfold Tn.leave
  rw [hf]
  rw [if_neg (by simp)]
  rcases t.first_cases with ⟨h1, _⟩ | ⟨x, l, h1, h2, h4⟩ | ⟨x, l, h1, h2, h3, h4⟩
  · rw [hf] at h1; cases h1
  · rw [hf] at h2
    injection h2 with e
    subst e
    rw [h4]
    rw [t1] at h1
    by_cases ho : t.old = []
    · rw [if_neg (by simp [ho])]
      show J hd (s.lists l t.old t.deficit) b
      rw [ho, t3]
      exact h.leaveF i l h1 (by rw [← t2]; exact ho) hq htm
    · rw [if_pos ⟨by rw [t1, h1]; simp, ho⟩]
      show J hd (s.lists l (t.old ++ [i]) t.deficit) b
      rw [t2, t3]
      exact h.leaveFO i l h1 hq
  · rw [hf] at h3
    injection h3 with e
    subst e
    rw [h4, if_neg (by simp [h1])]
    show J hd (s.lists t.fresh l t.deficit) b
    rw [h1, t3]
    exact h.leaveO i l (by rw [← t1]; exact h1) (by rw [← t2]; exact h2) hq htm

theorem head_turn {hd : Nat} {s : St} {b : Bo} (h : J hd s b) (t : Tn) (i : Nat) (ht : t.fresh = s.fresh ∧ t.old = s.old ∧ t.deficit = s.de) (hf : t.first = (i, true)) (hd0 : s.de i ≤ 0) : J hd (s.lists (t.turnOnce s.c.quantum).fresh (t.turnOnce s.c.quantum).old (t.turnOnce s.c.quantum).deficit) b := by
  obtain ⟨t1, t2, t3⟩ := ht
  unfold Tn.turnOnce
  rw [hf]
  rcases t.first_cases with ⟨h1, _⟩ | ⟨x, l, h1, h2, h4⟩ | ⟨x, l, h1, h2, h3, h4⟩
  · rw [hf] at h1; cases h1
  · rw [hf] at h2
    injection h2 with e
    subst e
    rw [h4]
    rw [t1] at h1
    show J hd (s.lists l (t.old ++ [i]) (setAt t.deficit i (t.deficit i + s.c.quantum))) b
    rw [t2, t3]
    exact h.turnF i l h1 hd0
  · rw [hf] at h3
    injection h3 with e
    subst e
    rw [h4]
    show J hd (s.lists t.fresh (l ++ [i]) (setAt t.deficit i (t.deficit i + s.c.quantum))) b
    rw [h1, t3]
    exact h.turnO i l (by rw [← t1]; exact h1) (by rw [← t2]; exact h2) hd0

theorem Tr.serve {hd : Nat} {p : Pt} {b : Bo} (h : J hd p.st b) (hb : p.busy = false) (i : Nat) (hf : p.tn.first = (i, true)) (hd0 : 0 < p.tn.deficit i) : ∃ l, Tr hd p.now p b p.serve.1 l ∧ p.serve.1.now = p.now ∧ p.serve.1.busy = p.serve.2 ∧ p.serve.1.c = p.c ∧ (p.serve.2 = true → p.now < p.serve.1.upto ∧ p.serve.1.upto ≤ p.now + p.c.length * p.c.tau) := by
  have hh := first_head p i hf
  have hi := h.jt.lt i hh.mem
  obtain ⟨G, Gc⟩ := (p.bk i).giveUp_gv p.c p.now
  unfold Pt.serve
  rw [hf]
  rcases hR : (p.bk i).giveUp p.c p.now with ⟨k, d, f, fd, m⟩
  rw [hR] at G Gc
  unfold Pt.served
  rw [hf]
  simp only
  have hlate : ∀ y ∈ d, y.since + p.c.target ≤ p.now ∧ marksB p.c y = false := G.late
  have hno : hd = 8 → (d ≠ [] ∨ m = true) → ∀ x r, (p.bk i).q = x :: r → (b.fr x.id).first < 0 ∧ ∀ y ∈ r, (b.fr y.id).first < 0 := by
    intro e hdm x r hq
    obtain ⟨a1, a2⟩ := h.jf (.inl e) i hi x r hq
    refine ⟨?_, a2⟩
    by_cases hp : 0 ≤ (b.fr x.id).first
    · have ht : (p.bk i).timed = false := (a1 hp).1
      obtain ⟨g1, g2⟩ := Gc ht
      have g1' : d = [] := g1
      have g2' : m = false := g2
      rcases hdm with hdm | hdm
      · exact absurd g1' hdm
      · rw [g2'] at hdm; cases hdm
    · omega
  have hall : hd = 8 → (d ≠ [] ∨ m = true) → ∀ y ∈ (p.bk i).q, (b.fr y.id).first < 0 := by
    intro e hdm y hy
    rcases hq : (p.bk i).q with _ | ⟨x, r⟩
    · rw [hq] at hy; cases hy
    · obtain ⟨a1, a2⟩ := hno e hdm x r hq
      rw [hq] at hy
      rcases List.mem_cons.1 hy with e1 | e1
      · rw [e1]; exact a1
      · exact a2 y e1
  have hmk : ∀ y : Fm, marksB p.c y = false → ¬ (p.c.ecn = true ∧ canB y.s = true) := by
    intro y hy hc
    unfold marksB at hy
    rw [hc.1, hc.2] at hy
    cases hy
  have hev : ∀ (d : List Fm), (d.map (fun f => (⟨p.now, 4, f.id, i, f.s⟩ : Ev))) = d.map (fun f => ⟨p.st.now, 4, f.id, i, f.s⟩) := fun _ => rfl
  cases fd with
  | true =>
    rw [if_pos rfl]
    obtain ⟨x, hq, hfx, hmx⟩ := G.yes rfl
    simp only at hq hfx hmx
    obtain ⟨o1, j1⟩ := J.drops i (x :: k.q) d h hi hq (fun e y hy => ⟨(hlate y hy).1, hall e (.inl (fun e => by rw [e] at hy; cases hy)) y (by rw [hq]; simp [hy]), hmk y (hlate y hy).2⟩)
    have hfs : f.s.size = x.s.size := by
      rw [hfx]
      split
      · exact x.mark_size
      · rfl
    have hfid : f.id = x.id := by rw [hfx]; split <;> rfl
    have hkind : ((if m = true then 2 else 1) = 1 ∧ f.s = x.s) ∨ ((if m = true then 2 else 1) = 2 ∧ f.s = markOf x.s ∧ canB x.s = true ∧ p.c.ecn = true ∧ x.since + p.c.target ≤ p.now ∧ (hd = 8 → ((b.events (d.map (fun f => ⟨p.st.now, 4, f.id, i, f.s⟩))).fr x.id).first < 0)) := by
      cases m with
      | false => exact .inl ⟨rfl, by rw [hfx]; rfl⟩
      | true =>
        obtain ⟨m1, m2⟩ := hmx rfl
        unfold marksB at m1
        simp only [Bool.and_eq_true] at m1
        refine .inr ⟨rfl, by rw [hfx]; rfl, m1.2, m1.1, m2, fun e => ?_⟩
        rw [events_fr _ o1]
        exact hall e (.inr rfl) x (by rw [hq]; simp)
    obtain ⟨o2, j2⟩ := J.send j1 i x k.q (setAt_same _ _ _) hh hb hd0 _ f.s hkind
    have j3 := j2.setTm i k.timed hh.mem (fun e y r hy => by
      have hy' : setAt (setAt p.st.q i (x :: k.q)) i k.q i = y :: r := hy
      rw [setAt_same] at hy'
      have hJ := j1.jf e i hi x k.q (setAt_same _ _ _)
      have := hJ.2 y (by rw [hy']; simp)
      rw [(fr_event (Bo.event_keeps _ _) o2.id y.id).1]
      exact this)
    refine ⟨d.map (fun f : Fm => (⟨p.st.now, 4, f.id, i, f.s⟩ : Ev)) ++ [(⟨p.st.now, if m = true then 2 else 1, x.id, i, f.s⟩ : Ev)], ⟨?_, o1.append (EvsOk.one o2), ?_, fun j y hy => ?_, fun e he => ?_⟩, rfl, rfl, rfl, fun _ => ?_⟩
    · show (p.done ++ d.map _) ++ [f].map _ = _
      rw [List.append_assoc, ← hfid]
      rfl
    · rw [Bo.events_append]
      refine J.of_eq j3 (St.eq rfl rfl rfl ?_ ?_ ?_ rfl rfl ?_ rfl)
      · show p.now + x.s.size * p.c.tau = p.now + f.s.size * p.c.tau
        rw [hfs]
      · show setAt (setAt p.st.q i (x :: k.q)) i k.q = fun j => ((p.put i k).bk j).q
        rw [put_q, setAt_twice]; rfl
      · show setAt p.st.tm i k.timed = fun j => ((p.put i k).bk j).timed
        rw [put_tm]; rfl
      · show setAt p.tn.deficit i (p.tn.deficit i - x.s.size) = fun j => if j = i then p.tn.deficit i - f.s.size else p.tn.deficit j
        rw [hfs]; rfl
    · have hy' : y ∈ (fun j => ((p.put i k).bk j).q) j := hy
      rw [put_q] at hy'
      by_cases ei : j = i
      · rw [ei, setAt_same] at hy'
        rw [ei, hq]; simp [hy']
      · rw [setAt_other _ _ _ _ ei] at hy'
        exact hy'
    · rcases List.mem_append.1 he with he | he
      · rw [List.mem_map] at he
        obtain ⟨y, hy, rfl⟩ := he
        exact ⟨y, by show y ∈ (p.bk i).q; rw [hq]; simp [hy], rfl⟩
      · rw [List.mem_singleton] at he
        rw [he]
        exact ⟨x, by show x ∈ (p.bk i).q; rw [hq]; simp, rfl⟩
    · show p.now < p.now + f.s.size * p.c.tau ∧ p.now + f.s.size * p.c.tau ≤ p.now + p.c.length * p.c.tau
      have h0 : x.s.size ≤ p.c.length := (h.jq.qs i hi x (by show x ∈ (p.bk i).q; rw [hq]; simp)).le
      have h9 := Nat.mul_le_mul_right p.c.tau h0
      rw [← hfs] at h9
      have h1 := (h.jq.qs i hi x (by show x ∈ (p.bk i).q; rw [hq]; simp)).one
      have h2 := h.jq.cok.u1
      have h3 := Nat.mul_le_mul h1 h2
      have h4 : x.s.size * p.st.c.tau = f.s.size * p.c.tau := by rw [hfs]; rfl
      omega
  | false =>
    rw [if_neg (by simp)]
    obtain ⟨hq, hk, htm⟩ := G.no rfl
    simp only at hq hk htm
    obtain ⟨o1, j1⟩ := J.drops i [] d h hi (by rw [List.append_nil]; exact hq) (fun e y hy => ⟨(hlate y hy).1, hall e (.inl (fun e => by rw [e] at hy; cases hy)) y (by rw [hq]; exact hy), hmk y (hlate y hy).2⟩)
    have j2 := j1.setTm i k.timed hh.mem (fun _ y r hy => by
      have hy' : setAt p.st.q i [] i = y :: r := hy
      rw [setAt_same] at hy'; cases hy')
    have j3 := head_leave j2 p.tn i ⟨rfl, rfl, rfl⟩ hf (setAt_same _ _ _) (by show setAt p.st.tm i k.timed i = false; rw [setAt_same]; exact htm)
    refine ⟨d.map (fun f : Fm => (⟨p.st.now, 4, f.id, i, f.s⟩ : Ev)), ⟨rfl, o1, ?_, fun j y hy => ?_, fun e he => ?_⟩, rfl, hb, rfl, fun e => by cases e⟩
    refine J.of_eq j3 (St.eq rfl rfl rfl rfl ?_ ?_ rfl rfl rfl rfl)
    · show setAt p.st.q i [] = fun j => ((p.put i k).bk j).q
      rw [put_q, hk]; rfl
    · show setAt p.st.tm i k.timed = fun j => ((p.put i k).bk j).timed
      rw [put_tm]; rfl
    · have hy' : y ∈ (fun j => ((p.put i k).bk j).q) j := hy
      rw [put_q] at hy'
      by_cases ei : j = i
      · rw [ei, setAt_same, hk] at hy'
        cases hy'
      · rw [setAt_other _ _ _ _ ei] at hy'
        exact hy'
    · rw [List.mem_map] at he
      obtain ⟨y, hy, rfl⟩ := he
      exact ⟨y, by show y ∈ (p.bk i).q; rw [hq]; exact hy, rfl⟩

def Idle (p : Pt) : Prop := p.busy = false → p.tn.fresh = [] ∧ p.tn.old = []

theorem first_none (t : Tn) (h : t.first.2 = false) : t.fresh = [] ∧ t.old = [] := by
  rcases t.first_cases with ⟨_, h1, h2⟩ | ⟨x, l, _, h2, _⟩ | ⟨x, l, _, _, h3, _⟩
  · exact ⟨h1, h2⟩
  · rw [h2] at h; cases h
  · rw [h3] at h; cases h

theorem first_some (t : Tn) (h : ¬ t.first.2 = false) : ∃ i, t.first = (i, true) := by
  rcases hf : t.first with ⟨i, b⟩
  rw [hf] at h
  cases b
  · exact absurd rfl h
  · exact ⟨i, rfl⟩

theorem Tr.links {hd : Nat} : ∀ (n : Nat) {p : Pt} {b : Bo}, J hd p.st b → p.busy = false → ∀ p', Pt.links n p = (p', true) → ∃ l, Tr hd p.now p b p' l ∧ p'.now = p.now ∧ Idle p' ∧ (p'.busy = true → p.now < p'.upto ∧ p'.upto ≤ p.now + p.c.length * p.c.tau)
  | 0, p, b, _, _, p', e => by cases e
  | n + 1, p, b, h, hb, p', e => by
    rw [Pt.links] at e
    unfold Pt.look at e
    by_cases h1 : p.tn.first.2 = false
    · rw [if_pos h1] at e
      simp only at e
      injection e with e
      subst e
      exact ⟨[], Tr.none rfl rfl h, rfl, fun _ => first_none _ h1, fun e => by rw [hb] at e; cases e⟩
    · rw [if_neg h1] at e
      obtain ⟨i, hf⟩ := first_some _ h1
      by_cases h2 : p.tn.deficit p.tn.first.1 ≤ 0
      · rw [if_pos h2] at e
        simp only at e
        rw [hf] at h2
        have j1 := head_turn h p.tn i ⟨rfl, rfl, rfl⟩ hf h2
        obtain ⟨l, T, t1, t2, t3⟩ := Tr.links n (p := { p with tn := p.tn.turnOnce p.c.quantum }) (b := b) j1 hb p' e
        exact ⟨l, ⟨T.done, T.ok, T.j, T.sub, T.src⟩, t1, t2, t3⟩
      · rw [if_neg h2] at e
        rw [hf] at h2
        obtain ⟨l, T, t1, t2, tc, t3⟩ := Tr.serve h hb i hf (Int.not_le.1 h2)
        rcases hs : p.serve with ⟨p1, r⟩
        rw [hs] at e T t1 t2 tc t3
        cases r with
        | true =>
          simp only at e t2
          injection e with e
          subst e
          exact ⟨l, T, t1, fun hi => (by rw [t2] at hi; cases hi), fun _ => t3 rfl⟩
        | false =>
          simp only at e t1 t2
          obtain ⟨m, T2, s1, s2, s3⟩ := Tr.links n T.j t2 p' e
          exact ⟨l ++ m, T.trans (T2.later (Nat.le_of_eq t1)), s1.trans t1, s2, fun hbb => by have h9 := s3 hbb; rw [show p1.c = p.c from tc, show p1.now = p.now from t1] at h9; exact h9⟩

theorem Tr.feed {hd : Nat} {p : Pt} {b : Bo} (h : J hd p.st b) (hok : p.ok) (hb : p.busy = false) : ∃ l, Tr hd p.now p b p.feed l ∧ p.feed.now = p.now ∧ Idle p.feed ∧ (p.feed.busy = true → p.now < p.feed.upto ∧ p.feed.upto ≤ p.now + p.c.length * p.c.tau) := by
  obtain ⟨n, hn⟩ := p.link_is hok
  exact Tr.links n h hb _ hn

theorem Tr.fed {hd : Nat} {p : Pt} {b : Bo} (h : J hd p.st b) (hok : p.ok) : ∃ l, Tr hd p.now p b p.fedIfIdle l ∧ p.fedIfIdle.now = p.now ∧ Idle p.fedIfIdle ∧ (p.fedIfIdle.busy = true → p.now < p.fedIfIdle.upto ∨ p.busy = true ∧ p.fedIfIdle.upto = p.upto) := by
  unfold Pt.fedIfIdle
  cases hb : p.busy with
  | true =>
    rw [if_pos rfl]
    exact ⟨[], Tr.none rfl rfl h, rfl, fun e => (by rw [hb] at e; cases e), fun _ => .inr ⟨rfl, rfl⟩⟩
  | false =>
    rw [if_neg (by simp)]
    obtain ⟨l, T, t1, t2, t3⟩ := Tr.feed h hok hb
    exact ⟨l, T, t1, t2, fun e => .inl (t3 e).1⟩

end Go.Proofs.Ytnkicbopebgppaa

/-! Time goes by; a frame arrives. -/
namespace Go.Proofs.Ytnkicbopebgppaa
open Fl

theorem Tr.runs {hd : Nat} (stop : Nat) (hs : stop ≤ 4611686018427387904) : ∀ (n : Nat) {p : Pt} {b : Bo}, J hd p.st b → p.ok → p.now ≤ stop → Idle p → ∃ l, Tr hd stop p b (Pt.runs stop n p) l ∧ Idle (Pt.runs stop n p)
  | 0, p, b, h, _, _, hI => ⟨[], Tr.none rfl rfl h, hI⟩
  | n + 1, p, b, h, hok, hn, hI => by
    rw [Pt.runs]
    by_cases hg : p.busy = true ∧ p.upto ≤ stop
    · rw [if_pos hg]
      have hup := hok.up hg.1
      have hok1 := p.at_ok hok p.upto hup.1 (by omega)
      have j1 : J hd (Pt.st { p with now := p.upto, busy := false }) b := h.ends hg.1
      obtain ⟨l, T, t1, t2, _⟩ := Tr.feed j1 hok1 rfl
      have t1' : (Pt.feed { p with now := p.upto, busy := false }).now = p.upto := t1
      have F := Pt.feed_is _ hok1
      obtain ⟨m, T2, s2⟩ := Tr.runs stop hs n T.j F.ok (by rw [t1']; exact hg.2) t2
      have T1 : Tr hd stop p b (Pt.feed { p with now := p.upto, busy := false }) l := ⟨T.done, (T.later hg.2).ok, T.j, T.sub, T.src⟩
      exact ⟨l ++ m, T1.trans T2, s2⟩
    · rw [if_neg hg]
      exact ⟨[], Tr.none rfl rfl h, hI⟩

theorem Tr.advance {hd : Nat} {p : Pt} {b : Bo} (h : J hd p.st b) (hok : p.ok) (hI : Idle p) (n : Nat) (hn : p.now + n ≤ 4611686018427387904) :
    ∃ l, Tr hd (p.now + n) p b (p.advance n) l ∧ Idle (p.advance n) ∧ ((p.advance n).busy = true → (p.advance n).now < (p.advance n).upto) := by
  obtain ⟨l, T, hI2⟩ := Tr.runs (p.now + n) hn (p.frames + 1) h hok (by omega) hI
  have S := Pt.runs_stop (p.now + n) hn (p.frames + 1) p hok (by omega) (by omega)
  have R := Pt.runs_is (p.now + n) hn (p.frames + 1) p hok (by omega)
  have hup : (Pt.runs (p.now + n) (p.frames + 1) p).busy = true → p.now + n < (Pt.runs (p.now + n) (p.frames + 1) p).upto := by
    intro hb
    apply Nat.lt_of_not_le
    intro hle
    exact S ⟨hb, hle⟩
  refine ⟨l, ⟨T.done, T.ok, ?_, T.sub, T.src⟩, hI2, hup⟩
  exact T.j.tick (p.now + n) R.hi (fun hb => Nat.le_of_lt (hup hb)) (fun hb => hI2 hb)

/-- How many i below n are such. -/
def countTo (P : Nat → Bool) : Nat → Nat
  | 0 => 0
  | n + 1 => countTo P n + if P n = true then 1 else 0

theorem filter_countTo (P : Nat → Bool) : ∀ (n : Nat) (l : List Nat), l.Nodup → (∀ x ∈ l, x < n) → (l.filter P).length ≤ countTo P n
  | 0, l, _, h => by
    rcases l with _ | ⟨x, l⟩
    · exact Nat.zero_le _
    · have := h x (by simp); omega
  | n + 1, l, hnd, h => by
    have hnd2 : (l.filter (fun x => x != n)).Nodup := hnd.filter _
    have h2 : ∀ x ∈ l.filter (fun x => x != n), x < n := by
      intro x hx
      rw [List.mem_filter] at hx
      have := h x hx.1
      have : x ≠ n := by simpa using hx.2
      omega
    have ih := filter_countTo P n _ hnd2 h2
    show (l.filter P).length ≤ countTo P n + if P n = true then 1 else 0
    by_cases hm : n ∈ l
    · by_cases hp : P n = true
      · rw [if_pos hp]
        have := filter_less l P (fun x => P x && (x != n)) n hm hnd hp (by simp) (fun y hy => by simp [hy])
        rw [List.filter_filter] at ih
        omega
      · rw [if_neg hp]
        rw [List.filter_filter] at ih
        have e : l.filter P = l.filter (fun x => P x && (x != n)) := List.filter_congr (fun x _ => by
          by_cases e : x = n
          · subst e; simp [hp]
          · simp [e])
        rw [e]; exact ih
    · have e : l.filter (fun x => x != n) = l := List.filter_eq_self.2 (fun x hx => by
        have : x ≠ n := fun e => hm (e ▸ hx)
        simpa using this)
      rw [e] at ih
      split <;> omega

theorem costs_count (L Q : Nat) (de : Nat → Int) (P : Nat → Bool) : ∀ l : List Nat, (∀ j ∈ l, de j ≤ Q) → (∀ j ∈ l, 0 < de j → P j = true) → costs L de l ≤ (l.filter P).length * (Q + L - 1)
  | [], _, _ => Nat.zero_le _
  | j :: l, h1, h2 => by
    have ih := costs_count L Q de P l (fun k hk => h1 k (by simp [hk])) (fun k hk => h2 k (by simp [hk]))
    show cost L (de j) + costs L de l ≤ _
    by_cases hp : P j = true
    · have := cost_le L Q (de j) (h1 j (by simp))
      rw [List.filter_cons_of_pos hp, List.length_cons, Nat.add_mul]
      omega
    · have h0 : ¬ 0 < de j := fun h => hp (h2 j (by simp) h)
      rw [List.filter_cons_of_neg hp, cost_none _ _ (by omega)]
      omega

/-- A frame is booked. -/
def Bo.joins (b : Bo) (k : Nat) (fq : Fq) : Bo :=
  { b with
    f := b.f ++ [fq]
    here := b.here ++ [b.f.length]
    used := setAt b.used k true
    turn := if b.size k = 0 then setAt b.turn k 0 else b.turn
    size := setAt b.size k (b.size k + fq.s.size) }

def Bo.clears (b : Bo) : Bo := { b with left := fun _ => 0, over := fun _ => false }

/-- How many other buckets may be new ones. -/
def Bo.others (b : Bo) (k : Nat) : Nat := countTo (fun i => i != k && b.used i && decide (b.turn i < b.on.quantum)) b.on.buckets

/-- What is claimed of a frame. -/
def Bo.claimed (b : Bo) (k : Nat) (t : ByteArray) (now : Nat) (able : Bool) : Fq :=
  if b.old = true then ⟨t, now, able, false, -1, -1⟩
  else ⟨t, now, able, false, if b.used k = true then -1 else ((now + (b.on.length + b.others k * (b.on.quantum + b.on.length - 1)) * b.on.tau : Nat) : Int),
    ((now + ((b.size k + t.size + b.on.length + b.on.quantum - 1) / b.on.quantum + 3) * 2 * b.on.buckets * (b.on.quantum + b.on.length) * b.on.tau : Nat) : Int)⟩

theorem Bo.claimed_plain (b : Bo) (k : Nat) (t : ByteArray) (now : Nat) (able : Bool) : (b.claimed k t now able).s = t ∧ (b.claimed k t now able).at_ = now ∧ (b.claimed k t now able).able = able ∧ (b.claimed k t now able).gone = false := by
  unfold Bo.claimed
  split <;> exact ⟨rfl, rfl, rfl, rfl⟩
theorem Bo.claimed_first (b : Bo) (k : Nat) (t : ByteArray) (now : Nat) (able : Bool) (h : 0 ≤ (b.claimed k t now able).first) : b.old = false ∧ b.used k = false ∧ (b.claimed k t now able).first = ((now + (b.on.length + b.others k * (b.on.quantum + b.on.length - 1)) * b.on.tau : Nat) : Int) := by
  unfold Bo.claimed at h ⊢
  by_cases h1 : b.old = true
  · rw [if_pos h1] at h; simp only at h; omega
  · rw [if_neg h1] at h ⊢
    simp only at h ⊢
    by_cases h2 : b.used k = true
    · rw [if_pos h2] at h; omega
    · rw [if_neg h2] at h ⊢
      exact ⟨by simpa using h1, by simpa using h2, rfl⟩
theorem Bo.claimed_soon (b : Bo) (k : Nat) (t : ByteArray) (now : Nat) (able : Bool) (h : 0 ≤ (b.claimed k t now able).soon) : b.old = false ∧ (b.claimed k t now able).soon = ((now + ((b.size k + t.size + b.on.length + b.on.quantum - 1) / b.on.quantum + 3) * 2 * b.on.buckets * (b.on.quantum + b.on.length) * b.on.tau : Nat) : Int) := by
  unfold Bo.claimed at h ⊢
  by_cases h1 : b.old = true
  · rw [if_pos h1] at h; simp only at h; omega
  · rw [if_neg h1] at h ⊢
    exact ⟨by simpa using h1, rfl⟩

section
variable {b : Bo}

theorem joins_fr_old (k : Nat) (fq : Fq) (id : Nat) (h : id < b.f.length) : ((b.joins k fq).clears).fr id = b.fr id := frAt_snoc_old _ _ _ h
theorem joins_fr_new (k : Nat) (fq : Fq) (id : Nat) (h : id = b.f.length) : ((b.joins k fq).clears).fr id = fq := by rw [h]; exact frAt_snoc_new _ _

theorem JQ.join {c : Cf} {now ids : Nat} {q : Nat → List Fm} (h : JQ c now ids q b) (k : Nat) (hk : k < c.buckets) (t : ByteArray) (h1 : 1 ≤ t.size) (h2 : t.size ≤ c.length) (fq : Fq) (f1 : fq.s = t) (f2 : fq.at_ = now) (f3 : fq.gone = false) (f4 : fq.able = true → canB t = true) :
    JQ c now (ids + 1) (setAt q k (q k ++ [⟨ids, t, now⟩])) ((b.joins k fq).clears) := by
  have hlen := h.len
  have hmem : ∀ j, ∀ y ∈ setAt q k (q k ++ [⟨ids, t, now⟩]) j, y ∈ q j ∨ (j = k ∧ y = ⟨ids, t, now⟩) := by
    intro j y hy
    by_cases e : j = k
    · subst e
      rw [setAt_same] at hy
      rcases List.mem_append.1 hy with hy | hy
      · exact .inl hy
      · exact .inr ⟨rfl, by simpa using hy⟩
    · rw [setAt_other _ _ _ _ e] at hy; exact .inl hy
  refine ⟨h.on, h.cok, ?_, fun j hj y hy => ?_, fun j hj => ?_, fun i j hi hj x hx y hy e => ?_, fun j hj => ?_, h.when_, ?_, fun j hj y hy => ?_, fun id hid => ?_, ?_, fun id hid => ?_, fun j hj => ?_, fun id hid hg => ?_⟩
  · show (b.f ++ [fq]).length = _
    simp [hlen]
  · rcases hmem j y hy with hy | ⟨rfl, rfl⟩
    · have hy0 := h.qs j hj y hy
      have hf := joins_fr_old (b := b) k fq y.id (by rw [hlen]; exact hy0.lt)
      exact ⟨by have := hy0.lt; omega, by rw [hf]; exact hy0.s, by rw [hf]; exact hy0.at_, by rw [hf]; exact hy0.gone, hy0.last, hy0.one, hy0.le, hy0.si⟩
    · have hf := joins_fr_new (b := b) j fq ids hlen.symm
      exact ⟨by show ids < ids + 1; omega, by rw [hf]; exact f1, by rw [hf]; exact f2, by rw [hf]; exact f3, h.ll j hj, h1, h2, Nat.le_refl _⟩
  · by_cases e : j = k
    · subst e
      rw [setAt_same]
      refine List.pairwise_append.2 ⟨h.inc j hj, by simp, fun x hx y hy => ?_⟩
      rw [List.mem_singleton] at hy
      rw [hy]
      exact (h.qs j hj x hx).lt
    · rw [setAt_other _ _ _ _ e]; exact h.inc j hj
  · rcases hmem i x hx with hx1 | ⟨e1, e2⟩
    · rcases hmem j y hy with hy1 | ⟨e3, e4⟩
      · exact h.dis i j hi hj x hx1 y hy1 e
      · have := (h.qs i hi x hx1).lt
        rw [e4] at e
        have e' : x.id = ids := e
        omega
    · rcases hmem j y hy with hy1 | ⟨e3, e4⟩
      · have := (h.qs j hj y hy1).lt
        rw [e2] at e
        have e' : ids = y.id := e
        omega
      · rw [e1, e3]
  · show setAt b.size k (b.size k + fq.s.size) j = _
    by_cases e : j = k
    · subst e
      rw [setAt_same, setAt_same, qBytes_snoc, h.size j hj, f1]
    · rw [setAt_other _ _ _ _ e, setAt_other _ _ _ _ e]; exact h.size j hj
  · show (b.here ++ [b.f.length]).Nodup
    refine List.nodup_append.2 ⟨h.nd, by simp, fun x hx y hy e => ?_⟩
    rw [List.mem_singleton] at hy
    have := h.hlt x hx
    omega
  · show y.id ∈ b.here ++ [b.f.length]
    rcases hmem j y hy with hy | ⟨rfl, rfl⟩
    · exact List.mem_append_left _ (h.hin j hj y hy)
    · rw [hlen]; simp
  · rcases List.mem_append.1 (show id ∈ b.here ++ [b.f.length] from hid) with hid | hid
    · have := h.hlt id hid; omega
    · rw [List.mem_singleton] at hid; omega
  · show ((b.here ++ [b.f.length]).filter (fun id => !(((b.joins k fq).clears).fr id).gone)).length = _
    rw [List.filter_append, List.length_append, List.filter_congr (q := fun id => !(b.fr id).gone) (fun id hid => by rw [joins_fr_old (b := b) k fq id (by rw [hlen]; exact h.hlt id hid)]), h.cnt]
    have e2 : [b.f.length].filter (fun id => !(((b.joins k fq).clears).fr id).gone) = [b.f.length] := by
      rw [List.filter_cons_of_pos (by rw [joins_fr_new (b := b) k fq _ rfl, f3]; rfl)]; rfl
    rw [e2]
    have := (framesQ_set q k (q k ++ [⟨ids, t, now⟩]) c.buckets).2 hk
    simp only [List.length_append, List.length_cons, List.length_nil] at this ⊢
    omega
  · by_cases e : id = ids
    · rw [joins_fr_new (b := b) k fq id (by rw [e, hlen])]
      rw [f1]
      exact f4
    · rw [joins_fr_old (b := b) k fq id (by omega)]
      exact h.able id (by omega)
  · have := h.ll j hj
    show b.last j < _
    omega
  · rcases List.mem_append.1 (show id ∈ b.here ++ [b.f.length] from hid) with hid1 | hid1
    · rw [joins_fr_old (b := b) k fq id (by rw [hlen]; exact h.hlt id hid1)] at hg
      obtain ⟨j, hj, y, hy, hyid⟩ := h.hq id hid1 hg
      refine ⟨j, hj, y, ?_, hyid⟩
      by_cases ej : j = k
      · subst ej; rw [setAt_same]; exact List.mem_append_left _ hy
      · rw [setAt_other _ _ _ _ ej]; exact hy
    · rw [List.mem_singleton] at hid1
      exact ⟨k, hk, ⟨ids, t, now⟩, by rw [setAt_same]; simp, by rw [hid1, hlen]⟩

end
end Go.Proofs.Ytnkicbopebgppaa

/-! A frame joins its bucket. -/
namespace Go.Proofs.Ytnkicbopebgppaa
open Fl

def St.enters (s : St) (k : Nat) (t : ByteArray) (F : List Nat) (de : Nat → Int) : St :=
  { s with q := setAt s.q k (s.q k ++ [⟨s.ids, t, s.now⟩]), ids := s.ids + 1, fresh := F, de := de }

def Ent (s : St) (k : Nat) (F : List Nat) (de : Nat → Int) : Prop :=
  (k ∈ s.fresh ++ s.old ∧ F = s.fresh ∧ de = s.de) ∨ (k ∉ s.fresh ++ s.old ∧ F = s.fresh ++ [k] ∧ de = setAt s.de k s.c.quantum)

section
variable {s : St} {b : Bo} {k : Nat} {F : List Nat} {de : Nat → Int}

theorem Ent.mem (h : Ent s k F de) (j : Nat) : j ∈ F ++ s.old ↔ j ∈ s.fresh ++ s.old ∨ j = k := by
  rcases h with ⟨h1, h2, _⟩ | ⟨_, h2, _⟩
  · rw [h2]
    exact ⟨.inl, fun h => h.elim id (fun e => by rw [e]; exact h1)⟩
  · rw [h2]
    simp only [List.mem_append, List.mem_singleton]
    constructor
    · rintro ((h | h) | h)
      · exact .inl (.inl h)
      · exact .inr h
      · exact .inl (.inr h)
    · rintro ((h | h) | h)
      · exact .inl (.inl h)
      · exact .inr h
      · exact .inl (.inr h)

theorem Ent.sub (h : Ent s k F de) : List.Sublist (s.fresh ++ s.old) (F ++ s.old) := by
  rcases h with ⟨_, h2, _⟩ | ⟨_, h2, _⟩
  · rw [h2]; exact List.Sublist.refl _
  · rw [h2]; exact (List.sublist_append_left _ _).append (List.Sublist.refl _)

theorem Ent.same (h : Ent s k F de) (j : Nat) (hj : j ∈ s.fresh ++ s.old) : de j = s.de j := by
  rcases h with ⟨_, _, h3⟩ | ⟨h1, _, h3⟩
  · rw [h3]
  · rw [h3, setAt_other _ _ _ _ (fun e => h1 (by rw [← e]; exact hj))]

theorem JT.join (h : JT s b) (hc : s.c.ok) (hk : k < s.c.buckets) (E : Ent s k F de) (t : ByteArray) (fq : Fq) : JT (s.enters k t F de) ((b.joins k fq).clears) := by
  have hl1 := hc.l1
  refine ⟨h.busy, h.idle, fun j hj hn => ?_, fun j hj => ?_, ?_, fun j hj => ?_, fun j hj hn => ?_, fun j hj => ?_, h.rem⟩
  · show j ∈ F ++ s.old
    rw [E.mem]
    by_cases e : j = k
    · exact .inr e
    · refine .inl (h.listed j hj ?_)
      have hn' : setAt s.q k (s.q k ++ [⟨s.ids, t, s.now⟩]) j ≠ [] := hn
      rw [setAt_other _ _ _ _ e] at hn'
      exact hn'
  · rcases (E.mem j).1 hj with h1 | h1
    · exact h.lt j h1
    · rw [h1]; exact hk
  · show (F ++ s.old).Nodup
    have hnd := h.nd
    rcases E with ⟨_, h2, _⟩ | ⟨h1, h2, _⟩
    · rw [h2]; exact hnd
    · rw [h2, List.append_assoc]
      rw [List.mem_append] at h1
      obtain ⟨n1, n2, n3⟩ := List.nodup_append.1 hnd
      refine List.nodup_append.2 ⟨n1, ?_, fun a ha c hc e => ?_⟩
      · show (k :: s.old).Nodup
        exact List.nodup_cons.2 ⟨fun e => h1 (.inr e), n2⟩
      · rcases List.mem_cons.1 (show c ∈ k :: s.old from hc) with e1 | e1
        · exact h1 (.inl (by rw [← e1, ← e]; exact ha))
        · exact n3 a ha c e1 e
  · show setAt b.used k true j = true
    by_cases e : j = k
    · rw [e, setAt_same]
    · rw [setAt_other _ _ _ _ e]
      rcases (E.mem j).1 hj with h1 | h1
      · exact h.used j h1
      · exact absurd h1 e
  · show s.tm j = false
    exact h.calm j hj (fun e => hn ((E.mem j).2 (.inl e)))
  · show 1 - (s.c.length : Int) ≤ de j ∧ de j ≤ s.c.quantum
    by_cases hm : j ∈ s.fresh ++ s.old
    · rw [E.same j hm]; exact h.de j hm
    · rcases E with ⟨h1, h2, _⟩ | ⟨_, h2, h3⟩
      · exact absurd (by have hj' : j ∈ F ++ s.old := hj; rw [h2] at hj'; exact hj') hm
      · have hjk : j = k := by
          have hj' : j ∈ F ++ s.old := hj
          rw [h2] at hj'
          simp only [List.mem_append, List.mem_singleton] at hj' hm
          rcases hj' with (h | h) | h
          · exact absurd (.inl h) hm
          · exact h
          · exact absurd (.inr h) hm
        rw [h3, hjk, setAt_same]
        omega

theorem join_head (t : ByteArray) (j : Nat) (x : Fm) (r : List Fm) (hx : (s.enters k t F de).q j = x :: r) : (s.q j = [] ∧ j = k ∧ x = ⟨s.ids, t, s.now⟩ ∧ r = []) ∨ ∃ r0, s.q j = x :: r0 ∧ ∀ y ∈ r, y ∈ r0 ∨ (j = k ∧ y = ⟨s.ids, t, s.now⟩) := by
  have hx' : setAt s.q k (s.q k ++ [⟨s.ids, t, s.now⟩]) j = x :: r := hx
  by_cases e : j = k
  · subst e
    rw [setAt_same] at hx'
    rcases hq : s.q j with _ | ⟨y, r0⟩
    · rw [hq] at hx'
      simp at hx'
      exact .inl ⟨rfl, rfl, hx'.1.symm, hx'.2⟩
    · rw [hq] at hx'
      simp only [List.cons_append, List.cons.injEq] at hx'
      obtain ⟨rfl, rfl⟩ := hx'
      refine .inr ⟨r0, rfl, fun z hz => ?_⟩
      rcases List.mem_append.1 hz with hz | hz
      · exact .inl hz
      · exact .inr ⟨rfl, by simpa using hz⟩
  · rw [setAt_other _ _ _ _ e] at hx'
    exact .inr ⟨r, hx', fun y hy => .inl hy⟩

theorem JF.join (h : JF s b) (hT : JT s b) (hQ : JQ s.c s.now s.ids s.q b) (hk : k < s.c.buckets) (E : Ent s k F de) (t : ByteArray) (fq : Fq) (hfq : 0 ≤ fq.first → b.used k = false) : JF (s.enters k t F de) ((b.joins k fq).clears) := by
  intro j hj x r hx
  have hnew := joins_fr_new (b := b) k fq s.ids hQ.len.symm
  rcases join_head t j x r hx with ⟨_, e2, e3, e4⟩ | ⟨r0, hq, hr⟩
  · rw [e3, e4]
    refine ⟨fun hp => ?_, fun y hy => by cases hy⟩
    have hp' : 0 ≤ ((b.joins k fq).clears.fr s.ids).first := hp
    rw [hnew] at hp'
    have hu := hfq hp'
    have hout : k ∉ s.fresh ++ s.old := fun hm => by have := hT.used k hm; rw [hu] at this; cases this
    rcases E with ⟨h1, _⟩ | ⟨_, h2, h3⟩
    · exact absurd h1 hout
    · subst e2
      refine ⟨hT.calm j hk hout, ?_, ?_⟩
      · show j ∈ F
        rw [h2]; simp
      · show de j = s.c.quantum
        rw [h3, setAt_same]
  · obtain ⟨a1, a2⟩ := h j hj x r0 hq
    have hxl := (hQ.qs j hj x (by rw [hq]; simp)).lt
    have hm : j ∈ s.fresh ++ s.old := hT.listed j hj (by rw [hq]; simp)
    refine ⟨fun hp => ?_, fun y hy => ?_⟩
    · rw [joins_fr_old (b := b) k fq x.id (by rw [hQ.len]; exact hxl)] at hp
      obtain ⟨c1, c2, c3⟩ := a1 hp
      refine ⟨c1, ?_, (E.same j hm).trans c3⟩
      show j ∈ F
      rcases E with ⟨_, h2, _⟩ | ⟨_, h2, _⟩
      · rw [h2]; exact c2
      · rw [h2]; exact List.mem_append_left _ c2
    · rcases hr y hy with hy | ⟨e1, e2⟩
      · have hyl := (hQ.qs j hj y (by rw [hq]; simp [hy])).lt
        rw [joins_fr_old (b := b) k fq y.id (by rw [hQ.len]; exact hyl)]
        exact a2 y hy
      · rw [e2]
        show ((b.joins k fq).clears.fr s.ids).first < 0
        rw [hnew]
        apply Int.not_le.1
        intro hp
        have := hT.used j hm
        rw [e1, hfq hp] at this
        cases this

theorem JS.join (h : JS s b) (hT : JT s b) (hU : JU s b) (hQ : JQ s.c s.now s.ids s.q b) (E : Ent s k F de) (t : ByteArray) (fq : Fq)
    (hfq : 0 ≤ fq.first → b.old = false ∧ b.used k = false ∧ fq.first = ((s.now + (b.on.length + b.others k * (b.on.quantum + b.on.length - 1)) * b.on.tau : Nat) : Int)) : JS (s.enters k t F de) ((b.joins k fq).clears) := by
  intro j hj x r hx hp
  have hnew := joins_fr_new (b := b) k fq s.ids hQ.len.symm
  have hbase : (s.enters k t F de).base = s.base := rfl
  rcases join_head t j x r hx with ⟨_, e2, e3, _⟩ | ⟨r0, hq, hr⟩
  · rw [e3] at hp ⊢
    have hp' : 0 ≤ ((b.joins k fq).clears.fr s.ids).first := hp
    show ∃ A B, F = A ++ j :: B ∧ _ ≤ ((b.joins k fq).clears.fr s.ids).first
    rw [hnew] at hp' ⊢
    obtain ⟨g1, g2, g3⟩ := hfq hp'
    have hout : k ∉ s.fresh ++ s.old := fun hm => by have := hT.used k hm; rw [g2] at this; cases this
    rcases E with ⟨h1, _⟩ | ⟨_, h2, h3⟩
    · exact absurd h1 hout
    · subst e2
      refine ⟨s.fresh, [], h2, ?_⟩
      rw [g3, hQ.on, hbase]
      show ((s.base + costs s.c.length de s.fresh * s.c.tau : Nat) : Int) ≤ _
      have hjF : j ∉ s.fresh := fun hm => hout (List.mem_append_left _ hm)
      rw [h3, costs_out _ _ _ _ _ hjF]
      have hb : s.base ≤ s.now + s.c.length * s.c.tau := by
        unfold St.base
        split
        · rename_i hb; exact hT.rem g1 hb
        · exact Nat.le_add_right _ _
      have hcn : costs s.c.length s.de s.fresh ≤ b.others j * (s.c.quantum + s.c.length - 1) := by
        have h4 := costs_count s.c.length s.c.quantum s.de (fun i => i != j && b.used i && decide (b.turn i < b.on.quantum)) s.fresh (fun i hi => (hT.de i (List.mem_append_left _ hi)).2) (fun i hi h0 => by
          have hne : i ≠ j := fun e => hjF (by rw [← e]; exact hi)
          have hu := hT.used i (List.mem_append_left _ hi)
          have ht := hU i hi
          have : b.turn i < s.c.quantum := by omega
          simp [hne, hu, hQ.on, this])
        have h5 := filter_countTo (fun i => i != j && b.used i && decide (b.turn i < b.on.quantum)) s.c.buckets s.fresh ((List.nodup_append.1 hT.nd).1) (fun i hi => hT.lt i (List.mem_append_left _ hi))
        have h6 : b.others j = countTo (fun i => i != j && b.used i && decide (b.turn i < b.on.quantum)) s.c.buckets := by unfold Bo.others; rw [hQ.on]
        rw [h6]
        exact Nat.le_trans h4 (Nat.mul_le_mul_right _ h5)
      have h7 := Nat.mul_le_mul_right s.c.tau (Nat.add_le_add_left hcn s.c.length)
      rw [Nat.add_mul s.c.length] at h7
      omega
  · have hxl := (hQ.qs j hj x (by rw [hq]; simp)).lt
    rw [joins_fr_old (b := b) k fq x.id (by rw [hQ.len]; exact hxl)] at hp ⊢
    obtain ⟨A, B, hA, hle⟩ := h j hj x r0 hq hp
    rw [hbase]
    show ∃ A B, F = A ++ j :: B ∧ ((s.base + costs s.c.length de A * s.c.tau : Nat) : Int) ≤ _
    have hcA : costs s.c.length de A = costs s.c.length s.de A := costs_congr _ _ _ _ (fun m hm => E.same m (List.mem_append_left _ (by rw [hA]; simp [hm])))
    rcases E with ⟨_, h2, _⟩ | ⟨_, h2, _⟩
    · exact ⟨A, B, by rw [h2]; exact hA, by rw [hcA]; exact hle⟩
    · exact ⟨A, B ++ [k], by rw [h2, hA]; simp, by rw [hcA]; exact hle⟩

theorem JU.join (h : JU s b) (hT : JT s b) (hQ : JQ s.c s.now s.ids s.q b) (hk : k < s.c.buckets) (E : Ent s k F de) (t : ByteArray) (fq : Fq) : JU (s.enters k t F de) ((b.joins k fq).clears) := by
  intro j hj
  show (((if b.size k = 0 then setAt b.turn k 0 else b.turn) j : Nat) : Int) ≤ s.c.quantum - de j
  have hj' : j ∈ F := hj
  by_cases hm : j ∈ s.fresh
  · have h1 := h j hm
    have h2 := E.same j (List.mem_append_left _ hm)
    have h3 := (hT.de j (List.mem_append_left _ hm)).2
    rw [h2]
    split
    · by_cases e : j = k
      · subst e; rw [setAt_same]; omega
      · rw [setAt_other _ _ _ _ e]; exact h1
    · exact h1
  · rcases E with ⟨_, h2, _⟩ | ⟨h1, h2, h3⟩
    · rw [h2] at hj'; exact absurd hj' hm
    · have hjk : j = k := by
        rw [h2] at hj'
        rcases List.mem_append.1 hj' with e | e
        · exact absurd e hm
        · simpa using e
      subst hjk
      have hq : s.q j = [] := by
        rcases hq : s.q j with _ | ⟨x, r⟩
        · rfl
        · exact absurd (hT.listed j hk (by rw [hq]; simp)) h1
      have hs : b.size j = 0 := by rw [hQ.size j hk, hq]; rfl
      rw [if_pos hs, setAt_same, h3, setAt_same]
      omega

theorem JFa.join (h : JFa s b) (hT : JT s b) (E : Ent s k F de) (t : ByteArray) (fq : Fq) (hp : ∀ i m, m < i → i < s.c.buckets → (b.pairs (i * s.c.buckets + m)).on = true → s.q i ≠ [] ∧ s.q m ≠ []) : JFa (s.enters k t F de) ((b.joins k fq).clears) := by
  intro i m hmi hi hon _ _
  obtain ⟨n1, n2⟩ := hp i m hmi hi hon
  obtain ⟨K, h1, h2⟩ := h i m hmi hi hon n1 n2
  refine ⟨K, ?_, h2⟩
  have e1 := E.same i (hT.listed i hi n1)
  have e2 := E.same m (hT.listed m (Nat.lt_trans hmi hi) n2)
  have e3 : owed (s.enters k t F de) ((b.joins k fq).clears) i m = owed s b i m := by
    show (b.sent i : Int) - b.sent m + de i - de m = (b.sent i : Int) - b.sent m + s.de i - s.de m
    rw [e1, e2]
  rw [e3]
  rcases h1 with ⟨a1, a2⟩ | ⟨a1, a2⟩
  · exact .inl ⟨a1.trans E.sub, a2⟩
  · exact .inr ⟨a1.trans E.sub, a2⟩

/-- What the others may send at the most. -/
theorem IsS.le (h : JT s b) (i S : Nat) (hS : IsS s i S) : S ≤ s.c.V * (2 * s.c.buckets - 2) := by
  have hlen := len_le h
  have hV : s.c.quantum + s.c.length - 1 = s.c.V := rfl
  rcases hS with ⟨A, B, hA, hS⟩ | ⟨A, B, hA, hS⟩
  · have h1 := costs_le s.c.length s.c.quantum s.de A (fun j hj => (h.de j (List.mem_append_left _ (by rw [hA]; simp [hj]))).2)
    rw [hV] at h1
    have h2 : A.length ≤ 2 * s.c.buckets - 2 := by
      rw [hA] at hlen
      simp only [List.length_append, List.length_cons] at hlen
      omega
    have h3 := Nat.mul_le_mul_left s.c.V h2
    rw [Nat.mul_comm] at h1
    omega
  · have h1 := costs_le s.c.length s.c.quantum s.de A (fun j hj => (h.de j (List.mem_append_right _ (by rw [hA]; simp [hj]))).2)
    have h2 := costs_le s.c.length s.c.quantum s.de s.fresh (fun j hj => (h.de j (List.mem_append_left _ hj)).2)
    rw [hV] at h1 h2
    have h3 : s.fresh.length + A.length + (A.length + (s.c.buckets - (s.fresh.length + s.old.length))) ≤ 2 * s.c.buckets - 2 := by
      rw [hA] at hlen ⊢
      simp only [List.length_append, List.length_cons] at hlen ⊢
      omega
    have h4 := Nat.mul_le_mul_left s.c.V h3
    rw [Nat.mul_add, Nat.mul_add, Nat.mul_comm s.c.V s.fresh.length, Nat.mul_comm s.c.V A.length] at h4
    omega

theorem IsS.some {i : Nat} (h : i ∈ s.fresh ++ s.old) : ∃ S, IsS s i S := by
  rcases List.mem_append.1 h with h | h
  · obtain ⟨A, B, e⟩ := List.append_of_mem h
    exact ⟨_, .inl ⟨A, B, e, rfl⟩⟩
  · obtain ⟨A, B, e⟩ := List.append_of_mem h
    exact ⟨_, .inr ⟨A, B, e, rfl⟩⟩

theorem IsS.enter (hT : JT s b) (hk : k < s.c.buckets) (E : Ent s k F de) (t : ByteArray) (i S : Nat) (h : IsS s i S) : ∃ S', IsS (s.enters k t F de) i S' ∧ S' ≤ S := by
  rcases E with ⟨h1, h2, h3⟩ | ⟨h1, h2, h3⟩
  · subst h2 h3
    exact ⟨S, h, Nat.le_refl _⟩
  · rcases h with ⟨A, B, hA, hS⟩ | ⟨A, B, hA, hS⟩
    · refine ⟨_, .inl ⟨A, B ++ [k], by show F = _; rw [h2, hA]; simp, rfl⟩, ?_⟩
      show costs s.c.length de A ≤ S
      rw [h3, costs_out _ _ _ _ A (fun hm => h1 (List.mem_append_left _ (by rw [hA]; simp [hm]))), hS]
      exact Nat.le_refl _
    · refine ⟨_, .inr ⟨A, B, hA, rfl⟩, ?_⟩
      show costs s.c.length de F + costs s.c.length de A + s.c.V * (A.length + (s.c.buckets - (F.length + s.old.length))) ≤ S
      rw [h3, h2, costs_append, costs_out _ _ _ _ A (fun hm => h1 (List.mem_append_right _ (by rw [hA]; simp [hm]))), costs_out _ _ _ _ s.fresh (fun hm => h1 (List.mem_append_left _ hm)), hS]
      have hc : costs s.c.length (setAt s.de k s.c.quantum) [k] ≤ s.c.V := by
        show cost s.c.length (setAt s.de k s.c.quantum k) + 0 ≤ _
        rw [setAt_same]
        exact cost_le _ _ _ (Int.le_refl _)
      have hlen : s.fresh.length + s.old.length + 1 ≤ s.c.buckets := by
        have := nodup_len s.c.buckets (k :: (s.fresh ++ s.old)) (List.nodup_cons.2 ⟨h1, hT.nd⟩) (fun x hx => by
          rcases List.mem_cons.1 hx with e | e
          · rw [e]; exact hk
          · exact hT.lt x e)
        simp only [List.length_cons, List.length_append] at this
        exact this
      have e1 : A.length + (s.c.buckets - (s.fresh.length + s.old.length)) = A.length + (s.c.buckets - ((s.fresh ++ [k]).length + s.old.length)) + 1 := by simp; omega
      rw [e1, Nat.mul_add s.c.V _ 1]
      omega

theorem soon_arith (base now L Q n tau S co T R : Nat) (hb : base ≤ now + L * tau) (hS : S ≤ (Q + L - 1) * (2 * n - 2)) (hc : co ≤ Q + L - 1) (ht : T ≤ R) (hn : 1 ≤ n) (hQ : 1 ≤ Q) :
    base + (S + co + 2 * n * (Q + L) * T) * tau ≤ now + (R + 3) * 2 * n * (Q + L) * tau := by
  have e5 : (R + 3) * 2 * n * (Q + L) = 2 * n * (Q + L) * (R + 3) := by
    rw [Nat.mul_assoc (R + 3) 2, Nat.mul_assoc (R + 3), Nat.mul_comm (R + 3)]
  rw [e5]
  have e6 : L + (S + co) ≤ 2 * n * (Q + L) := by
    have k1 : (Q + L - 1) * (2 * n - 2) + (Q + L - 1) = (Q + L - 1) * (2 * n - 1) := by
      rw [show 2 * n - 1 = (2 * n - 2) + 1 by omega, Nat.mul_add, Nat.mul_one]
    have k2 : (Q + L - 1) * (2 * n - 1) ≤ (Q + L) * (2 * n - 1) := Nat.mul_le_mul_right _ (by omega)
    have k3 : (Q + L) * (2 * n - 1) + (Q + L) = 2 * n * (Q + L) := by
      rw [Nat.mul_comm (2 * n)]
      conv => rhs; rw [show 2 * n = (2 * n - 1) + 1 by omega, Nat.mul_add, Nat.mul_one]
    omega
  generalize 2 * n * (Q + L) = M at *
  have e7 : L + (S + co + M * T) ≤ M * (R + 3) := by
    have k1 := Nat.mul_le_mul_left M ht
    rw [Nat.mul_add]
    omega
  have e8 := Nat.mul_le_mul_right tau e7
  rw [Nat.add_mul L] at e8
  omega

theorem JSo.join (h : JSo s b) (hT : JT s b) (hQ : JQ s.c s.now s.ids s.q b) (hk : k < s.c.buckets) (E : Ent s k F de) (t : ByteArray) (fq : Fq)
    (hfq : 0 ≤ fq.soon → b.old = false ∧ fq.soon = ((s.now + ((b.size k + t.size + b.on.length + b.on.quantum - 1) / b.on.quantum + 3) * 2 * b.on.buckets * (b.on.quantum + b.on.length) * b.on.tau : Nat) : Int)) : JSo (s.enters k t F de) ((b.joins k fq).clears) := by
  have hT' : JT (s.enters k t F de) ((b.joins k fq).clears) := hT.join hQ.cok hk E t fq
  have hnew := joins_fr_new (b := b) k fq s.ids hQ.len.symm
  intro i hi pre x post hx hp
  have hx' : setAt s.q k (s.q k ++ [⟨s.ids, t, s.now⟩]) i = pre ++ x :: post := hx
  have old : ∀ post', s.q i = pre ++ x :: post' → ∃ S, IsS (s.enters k t F de) i S ∧ ((due (s.enters k t F de) i S (qBytes (pre ++ [x])) : Nat) : Int) ≤ (((b.joins k fq).clears).fr x.id).soon := by
    intro post' hq
    have hxl := (hQ.qs i hi x (by rw [hq]; simp)).lt
    rw [joins_fr_old (b := b) k fq x.id (by rw [hQ.len]; exact hxl)] at hp ⊢
    obtain ⟨S, hS, hle⟩ := h i hi pre x post' hq hp
    obtain ⟨S', hS', hl⟩ := IsS.enter hT hk E t i S hS
    refine ⟨S', hS', Int.le_trans (Int.ofNat_le.2 (due_less s _ i S S' _ rfl rfl (E.same i (hT.listed i hi (by rw [hq]; simp))) hl)) hle⟩
  by_cases e : i = k
  · subst e
    rw [setAt_same] at hx'
    rcases List.eq_nil_or_concat post with hpost | ⟨post', y, hpost⟩
    · rw [hpost] at hx'
      have hsp := List.append_inj' hx' rfl
      obtain ⟨e1, e2⟩ := hsp
      have e2' : x = ⟨s.ids, t, s.now⟩ := by
        injection e2 with e2 _
        exact e2.symm
      rw [e2'] at hp ⊢
      have hp' : 0 ≤ ((b.joins i fq).clears.fr s.ids).soon := hp
      show ∃ S, _ ∧ _ ≤ ((b.joins i fq).clears.fr s.ids).soon
      rw [hnew] at hp' ⊢
      obtain ⟨g1, g2⟩ := hfq hp'
      obtain ⟨S, hS⟩ := IsS.some (s := s.enters i t F de) (i := i) ((E.mem i).2 (.inr rfl))
      refine ⟨S, hS, ?_⟩
      have hle := IsS.le hT' i S hS
      have hdei := hT'.de i ((E.mem i).2 (.inr rfl))
      have hcost := cost_le s.c.length s.c.quantum (de i) hdei.2
      rw [g2, hQ.on]
      refine Int.ofNat_le.2 ?_
      have hb : s.base ≤ s.now + s.c.length * s.c.tau := by
        unfold St.base
        split
        · rename_i hb; exact hT.rem g1 hb
        · exact Nat.le_add_right _ _
      have hq1 := hQ.cok.q1
      have hb1 := hQ.cok.b1
      have hl1 := hQ.cok.l1
      have htts : tts s.c.quantum (de i) (qBytes (pre ++ [⟨s.ids, t, s.now⟩])) ≤ (b.size i + t.size + s.c.length + s.c.quantum - 1) / s.c.quantum := by
        unfold tts
        refine Nat.div_le_div_right ?_
        rw [qBytes_snoc, ← e1, hQ.size i hi]
        have h0 : 1 - (s.c.length : Int) ≤ de i := hdei.1
        show ((qBytes (s.q i) + t.size : Nat) - de i + s.c.quantum - 1).toNat ≤ qBytes (s.q i) + t.size + s.c.length + s.c.quantum - 1
        omega
      have hV : s.c.quantum + s.c.length - 1 = s.c.V := rfl
      rw [hV] at hcost
      exact soon_arith s.base s.now s.c.length s.c.quantum s.c.buckets s.c.tau S _ _ _ hb hle hcost htts hb1 hq1
    · rw [hpost] at hx'
      rw [show pre ++ x :: post'.concat y = (pre ++ x :: post') ++ [y] by simp] at hx'
      exact old post' (List.append_inj' hx' rfl).1
  · rw [setAt_other _ _ _ _ e] at hx'
    exact old post hx'

end
end Go.Proofs.Ytnkicbopebgppaa

/-! A frame arrives; how the port stands behind a step. -/
namespace Go.Proofs.Ytnkicbopebgppaa
open Fl

theorem enter_ent (p : Pt) (hok : p.ok) (k : Nat) : Ent p.st k (p.tn.enter k p.c.quantum).fresh (p.tn.enter k p.c.quantum).deficit ∧ (p.tn.enter k p.c.quantum).old = p.tn.old := by
  unfold Tn.enter
  by_cases h : p.tn.listed k = true
  · rw [if_pos h]
    exact ⟨.inl ⟨(hok.tn.li k).1 h, rfl, rfl⟩, rfl⟩
  · rw [if_neg h]
    exact ⟨.inr ⟨fun hm => h ((hok.tn.li k).2 hm), rfl, rfl⟩, rfl⟩

/-- Pairs of which one has nothing are not held. -/
def PrOk (p : Pt) (b : Bo) : Prop := ∀ i m, m < i → i < p.c.buckets → (b.pairs (i * p.c.buckets + m)).on = true → (p.bk i).q ≠ [] ∧ (p.bk m).q ≠ []

theorem J.join {hd : Nat} {p : Pt} {b : Bo} (h : J hd p.st b) (hok : p.ok) (hpr : hd = 32 → PrOk p b) (k : Nat) (hk : k < p.c.buckets) (t : ByteArray) (h1 : 1 ≤ t.size) (h2 : t.size ≤ p.c.length) (able : Bool) (hable : able = true → canB t = true) :
    J hd (p.joined k t).st ((b.joins k (b.claimed k t p.now able)).clears) := by
  obtain ⟨E, eo⟩ := enter_ent p hok k
  obtain ⟨c1, c2, c3, c4⟩ := b.claimed_plain k t p.now able
  have es : (p.joined k t).st = p.st.enters k t (p.tn.enter k p.c.quantum).fresh (p.tn.enter k p.c.quantum).deficit := by
    refine St.eq rfl rfl rfl rfl ?_ ?_ rfl eo rfl rfl
    · show (fun j => ((p.put k { p.bk k with q := (p.bk k).q ++ [⟨p.ids, t, p.now⟩] }).bk j).q) = setAt p.st.q k (p.st.q k ++ [⟨p.ids, t, p.now⟩])
      rw [put_q]; rfl
    · show (fun j => ((p.put k { p.bk k with q := (p.bk k).q ++ [⟨p.ids, t, p.now⟩] }).bk j).timed) = p.st.tm
      rw [put_tm]
      exact setAt_self _ _ _ rfl
  rw [es]
  refine ⟨h.jq.join k hk t h1 h2 _ c1 c2 c4 (by rw [c3]; exact hable), h.jt.join h.jq.cok hk E t _, fun _ i _ hov => (by cases hov), fun e => (h.jf e).join h.jt h.jq hk E t _ (fun hp => (b.claimed_first k t p.now able hp).2.1),
    fun e => (h.js e).join h.jt (h.ju e) h.jq E t _ (fun hp => b.claimed_first k t p.now able hp), fun e => (h.ju e).join h.jt h.jq hk E t _, fun e => (h.ja e).join h.jt E t _ (hpr e), fun e => (h.jo e).join h.jt h.jq hk E t _ (fun hp => b.claimed_soon k t p.now able hp)⟩

theorem Tr.shed {hd : Nat} {p : Pt} {b : Bo} (h : J hd p.st b) (hok : p.ok) : ∃ l, Tr hd p.now p b p.shed l := Tr.sheds p.frames h hok

/-- A frame arrives in a bucket. -/
def Pt.arriveAt (p : Pt) (k : Nat) (t : ByteArray) : Pt := (p.joined k t).shed.fedIfIdle

/-- All but what is known when a step is over. -/
theorem Tr.arriveAt {hd : Nat} {p : Pt} {b : Bo} (h : J hd p.st b) (hok : p.ok) (h64 : p.frames ≤ 64) (hpr : hd = 32 → PrOk p b) (hup : p.busy = true → p.now < p.upto) (k : Nat) (hk : k < p.c.buckets) (t : ByteArray) (h1 : 1 ≤ t.size) (h2 : t.size ≤ p.c.length) (able : Bool) (hable : able = true → canB t = true) :
    ∃ l, Tr hd p.now (p.joined k t) ((b.joins k (b.claimed k t p.now able)).clears) (p.arriveAt k t) l ∧ Idle (p.arriveAt k t) ∧ ((p.arriveAt k t).busy = true → (p.arriveAt k t).now < (p.arriveAt k t).upto) := by
  have j1 := h.join hok hpr k hk t h1 h2 able hable
  have ok1 := (p.joined_ok hok h64 k t hk h1 h2).1
  obtain ⟨l1, T1⟩ := Tr.shed j1 ok1
  have S := (p.joined k t).shed_ok ok1
  obtain ⟨l2, T2, n2, i2, u2⟩ := Tr.fed T1.j S.1
  have en : (p.joined k t).shed.now = p.now := S.2.1.now
  have hn : (p.arriveAt k t).now = p.now := n2.trans en
  have T1' : Tr hd p.now (p.joined k t) ((b.joins k (b.claimed k t p.now able)).clears) (p.joined k t).shed l1 := T1
  have T2' : Tr hd p.now (p.joined k t).shed (((b.joins k (b.claimed k t p.now able)).clears).events l1) (p.arriveAt k t) l2 := T2.later (Nat.le_of_eq en)
  refine ⟨l1 ++ l2, T1'.trans T2', i2, fun hb => ?_⟩
  rcases u2 hb with hu | ⟨hu1, hu2⟩
  · show (p.arriveAt k t).now < (p.arriveAt k t).upto
    rw [hn]
    rw [en] at hu
    exact hu
  · show (p.arriveAt k t).now < (p.arriveAt k t).upto
    rw [hn]
    have e1 : (p.joined k t).shed.busy = p.busy := S.2.2.2.1
    have e2 : (p.joined k t).shed.upto = p.upto := S.2.2.2.2.1
    rw [e1] at hu1
    have e3 : (p.arriveAt k t).upto = p.upto := hu2.trans e2
    rw [e3]
    exact hup hu1

/-- Of two buckets, at the end of a step. -/
def prNext (p : Pr) (si sk : Nat) (d : Int) : Pr :=
  if si = 0 ∨ sk = 0 then { p with on := false }
  else if p.on = true then ⟨true, if d < p.least then d else p.least, if p.most < d then d else p.most⟩
  else ⟨true, d, d⟩

def Bo.fairs (b : Bo) : Bo :=
  { b with pairs := fun m => if m % b.on.buckets < m / b.on.buckets ∧ m / b.on.buckets < b.on.buckets then prNext (b.pairs m) (b.size (m / b.on.buckets)) (b.size (m % b.on.buckets)) ((b.sent (m / b.on.buckets) : Int) - b.sent (m % b.on.buckets)) else b.pairs m }

def Bo.rests (b : Bo) : Bo := { b with here := b.here.filter (fun id => !(b.fr id).gone) }
def Bo.idles (b : Bo) (busy : Bool) : Bo := if busy = true then b else { b with used := fun _ => false, turn := fun _ => 0 }
def Bo.stands (b : Bo) (busy : Bool) : Bo := (b.rests.idles busy).fairs

/-- What must be when a step is over. -/
structure StOk (hd : Nat) (p : Pt) (b : Bo) : Prop where
  soon : hd = 64 → ∀ id ∈ b.here, (b.fr id).gone = false → (b.fr id).soon < 0 ∨ (p.now : Int) ≤ (b.fr id).soon
  sparse : hd = 16 → ∀ id ∈ b.here, (b.fr id).gone = false → (b.fr id).first < 0 ∨ (p.now : Int) ≤ (b.fr id).first
  lt : ∀ id ∈ b.here, id < b.f.length
  size : ∀ i, i < p.c.buckets → b.size i = qBytes (p.bk i).q
  cnt : b.rests.here.length = p.frames
  lim : hd = 2 → p.frames ≤ p.c.packets ∧ p.memory ≤ p.c.memory
  busy : p.busy = decide (p.now < b.till)
  none : p.busy = false → p.frames = 0
  over : hd = 2 → JL p.c.buckets b
  fair : hd = 32 → ∀ i m, m < i → i < p.c.buckets → (b.fairs.pairs (i * p.c.buckets + m)).on = true → (b.fairs.pairs (i * p.c.buckets + m)).most - (b.fairs.pairs (i * p.c.buckets + m)).least ≤ 3 * p.c.quantum + 2 * p.c.length

structure JB (hd : Nat) (p : Pt) (b : Bo) : Prop where
  j : J hd p.st b
  ok : p.ok
  idle : Idle p
  up : p.busy = true → p.now < p.upto
  f64 : p.frames ≤ 64
  lim : hd = 2 → p.frames ≤ p.c.packets ∧ p.memory ≤ p.c.memory
  pr : hd = 32 → PrOk p b
  here : ∀ id ∈ b.here, (b.fr id).gone = false

theorem idle_frames {hd : Nat} {p : Pt} {b : Bo} (h : J hd p.st b) (hI : Idle p) (hb : p.busy = false) : (∀ i, i < p.c.buckets → (p.bk i).q = []) ∧ p.frames = 0 := by
  obtain ⟨h1, h2⟩ := hI hb
  have h3 : ∀ i, i < p.c.buckets → (p.bk i).q = [] := by
    intro i hi
    rcases hq : (p.bk i).q with _ | ⟨x, r⟩
    · rfl
    · have := h.jt.listed i hi (by show (p.bk i).q ≠ []; rw [hq]; simp)
      have e : p.st.fresh ++ p.st.old = [] := by show p.tn.fresh ++ p.tn.old = []; rw [h1, h2]; rfl
      rw [e] at this
      cases this
  refine ⟨h3, ?_⟩
  show framesTo p.bk p.c.buckets = 0
  rw [← framesQ_bk]
  exact framesQ_none _ _ h3

theorem pair_at (n i m : Nat) (hm : m < n) : (i * n + m) % n = m ∧ (i * n + m) / n = i := by
  constructor
  · rw [Nat.mul_comm, Nat.mul_add_mod]; exact Nat.mod_eq_of_lt hm
  · rw [Nat.mul_comm, Nat.mul_add_div (by omega), Nat.div_eq_of_lt hm, Nat.add_zero]

theorem fairs_at (b : Bo) (i m : Nat) (hmi : m < i) (hi : i < b.on.buckets) : b.fairs.pairs (i * b.on.buckets + m) = prNext (b.pairs (i * b.on.buckets + m)) (b.size i) (b.size m) ((b.sent i : Int) - b.sent m) := by
  obtain ⟨e1, e2⟩ := pair_at b.on.buckets i m (by omega)
  show (if _ then _ else _) = _
  rw [e1, e2, if_pos ⟨hmi, hi⟩]

theorem qBytes_zero {c : Cf} {now ids : Nat} {q : Nat → List Fm} {b : Bo} (h : JQ c now ids q b) (i : Nat) (hi : i < c.buckets) : b.size i = 0 ↔ q i = [] := by
  rw [h.size i hi]
  rcases hq : q i with _ | ⟨x, r⟩
  · exact ⟨fun _ => rfl, fun _ => rfl⟩
  · have := (h.qs i hi x (by rw [hq]; simp)).one
    refine ⟨fun e => ?_, fun e => by cases e⟩
    rw [qBytes_cons] at e
    omega

/-- The difference of two buckets lies in its window: so do the bounds that are kept of it. -/
theorem fairs_window {hd : Nat} {p : Pt} {b : Bo} (h : J hd p.st b) (e32 : hd = 32) (i m : Nat) (hmi : m < i) (hi : i < p.c.buckets) (hon : (b.fairs.pairs (i * p.c.buckets + m)).on = true) :
    (p.bk i).q ≠ [] ∧ (p.bk m).q ≠ [] ∧ ∃ K : Int, ((List.Sublist [i, m] (p.tn.fresh ++ p.tn.old) ∧ owed p.st b i m = K) ∨ (List.Sublist [m, i] (p.tn.fresh ++ p.tn.old) ∧ owed p.st b i m = K + p.c.quantum)) ∧
      K - p.c.quantum - p.c.length + 1 ≤ (b.fairs.pairs (i * p.c.buckets + m)).least ∧ (b.fairs.pairs (i * p.c.buckets + m)).most ≤ K + 2 * p.c.quantum + p.c.length - 1 := by
  have hon0 : b.on = p.c := h.jq.on
  have hf := fairs_at b i m hmi (by rw [hon0]; exact hi)
  rw [hon0] at hf
  rw [hf] at hon ⊢
  unfold prNext at hon ⊢
  by_cases hz : b.size i = 0 ∨ b.size m = 0
  · rw [if_pos hz] at hon; cases hon
  · rw [if_neg hz] at hon ⊢
    have hm : m < p.c.buckets := Nat.lt_trans hmi hi
    have n1 : (p.bk i).q ≠ [] := fun e => hz (.inl ((qBytes_zero h.jq i hi).2 e))
    have n2 : (p.bk m).q ≠ [] := fun e => hz (.inr ((qBytes_zero h.jq m hm).2 e))
    refine ⟨n1, n2, ?_⟩
    by_cases ho : (b.pairs (i * p.c.buckets + m)).on = true
    · obtain ⟨K, hK, hl, hu⟩ := h.ja e32 i m hmi hi ho n1 n2
      have hw := JFa.window h.jt i m hi hm n1 n2 K hK
      obtain ⟨w1, w2⟩ := hw
      have w1' : K - p.c.quantum - p.c.length + 1 ≤ (b.sent i : Int) - b.sent m := w1
      have w2' : (b.sent i : Int) - b.sent m ≤ K + 2 * p.c.quantum + p.c.length - 1 := w2
      have hl' : K - p.c.quantum - p.c.length + 1 ≤ (b.pairs (i * p.c.buckets + m)).least := hl
      have hu' : (b.pairs (i * p.c.buckets + m)).most ≤ K + 2 * p.c.quantum + p.c.length - 1 := hu
      refine ⟨K, hK, ?_⟩
      rw [if_pos ho]
      refine ⟨?_, ?_⟩
      · show _ ≤ (if _ then _ else _)
        split
        · exact w1'
        · exact hl'
      · show (if _ then _ else _) ≤ _
        split
        · exact w2'
        · exact hu'
    · obtain ⟨K, hK⟩ := JFa.start h.jt i m (by omega) hi hm n1 n2
      have hw := JFa.window h.jt i m hi hm n1 n2 K hK
      refine ⟨K, hK, ?_⟩
      rw [if_neg ho]
      exact hw

theorem StOk.of {hd : Nat} {p : Pt} {b : Bo} (h : J hd p.st b) (hI : Idle p) (hup : p.busy = true → p.now < p.upto) (hlim : hd = 2 → p.frames ≤ p.c.packets ∧ p.memory ≤ p.c.memory) : StOk hd p b := by
  refine ⟨fun e id hid hg => ?_, fun e id hid hg => ?_, fun id hid => by rw [h.jq.len]; exact h.jq.hlt id hid, h.jq.size, ?_, hlim, ?_, fun hb => (idle_frames h hI hb).2, fun e => h.jl e, fun e i m hmi hi hon => ?_⟩
  · obtain ⟨i, hi, x, hx, rfl⟩ := h.jq.hq id hid hg
    obtain ⟨A, B, e1⟩ := List.append_of_mem hx
    by_cases hp : 0 ≤ (b.fr x.id).soon
    · exact .inr ((h.jo e).waits h.jt i hi A x B e1 hp)
    · exact .inl (by omega)
  · obtain ⟨i, hi, x, hx, rfl⟩ := h.jq.hq id hid hg
    by_cases hp : 0 ≤ (b.fr x.id).first
    · rcases hq : (p.bk i).q with _ | ⟨y, r⟩
      · have hx' : x ∈ (p.bk i).q := hx
        rw [hq] at hx'; cases hx'
      · have hx' : x ∈ (p.bk i).q := hx
        rw [hq] at hx'
        rcases List.mem_cons.1 hx' with e1 | e1
        · subst e1
          exact .inr ((h.js e).waits h.jt i hi x r hq hp)
        · exact .inl ((h.jf (.inr e) i hi y r hq).2 x e1)
    · exact .inl (by omega)
  · show (b.here.filter (fun id => !(b.fr id).gone)).length = framesTo p.bk p.c.buckets
    rw [← framesQ_bk]
    exact h.jq.cnt
  · cases hb : p.busy with
    | true =>
      have h1 := (h.jt.busy hb).1
      have h2 := hup hb
      exact (decide_eq_true (by show p.now < b.till; rw [h1]; exact h2)).symm
    | false =>
      have h1 : b.till ≤ p.now := h.jt.idle hb
      exact (decide_eq_false (by omega)).symm
  · obtain ⟨_, _, K, _, h1, h2⟩ := fairs_window h e i m hmi hi hon
    omega

theorem JB.of {hd : Nat} {p : Pt} {b : Bo} (h : J hd p.st b) (hok : p.ok) (hI : Idle p) (hup : p.busy = true → p.now < p.upto) (hf : p.frames ≤ 64) (hlim : hd = 2 → p.frames ≤ p.c.packets ∧ p.memory ≤ p.c.memory) : JB hd p (b.stands p.busy) := by
  have hfr : ∀ id, (b.stands p.busy).fr id = b.fr id := by
    intro id
    unfold Bo.stands Bo.idles
    split <;> rfl
  have e1 : (b.stands p.busy).on = b.on ∧ (b.stands p.busy).f = b.f ∧ (b.stands p.busy).last = b.last ∧ (b.stands p.busy).size = b.size ∧ (b.stands p.busy).when_ = b.when_ ∧ (b.stands p.busy).here = b.here.filter (fun id => !(b.fr id).gone) ∧ (b.stands p.busy).till = b.till ∧ (b.stands p.busy).old = b.old ∧ (b.stands p.busy).sent = b.sent ∧ (b.stands p.busy).left = b.left ∧ (b.stands p.busy).over = b.over := by
    unfold Bo.stands Bo.idles
    split <;> exact ⟨rfl, rfl, rfl, rfl, rfl, rfl, rfl, rfl, rfl, rfl, rfl⟩
  obtain ⟨a1, a2, a3, a4, a5, a6, a7, a8, a9, a10, a11⟩ := e1
  have ep : (b.stands p.busy).pairs = b.fairs.pairs := by
    unfold Bo.stands Bo.idles
    split <;> rfl
  have hq := h.jq
  have hg : ∀ id ∈ (b.stands p.busy).here, id ∈ b.here ∧ (b.fr id).gone = false := by
    intro id hid
    rw [a6, List.mem_filter] at hid
    exact ⟨hid.1, by simpa using hid.2⟩
  refine ⟨⟨?_, ?_, fun e => ?_, fun e => ?_, fun e => ?_, fun e => ?_, fun e => ?_, fun e => ?_⟩, hok, hI, hup, hf, hlim, fun e i m hmi hi hon => ?_, fun id hid => by rw [hfr]; exact (hg id hid).2⟩
  · refine ⟨a1.trans hq.on, hq.cok, by rw [a2]; exact hq.len, fun i hi x hx => ?_, hq.inc, hq.dis, by rw [a4]; exact hq.size, by rw [a5]; exact hq.when_, by rw [a6]; exact hq.nd.filter _, fun i hi x hx => ?_, fun id hid => hq.hlt id (hg id hid).1, ?_, fun id hid => by rw [hfr]; exact hq.able id hid, by rw [a3]; exact hq.ll, fun id hid hgo => hq.hq id (hg id hid).1 (hg id hid).2⟩
    · have k := hq.qs i hi x hx
      exact ⟨k.lt, by rw [hfr]; exact k.s, by rw [hfr]; exact k.at_, by rw [hfr]; exact k.gone, by rw [a3]; exact k.last, k.one, k.le, k.si⟩
    · rw [a6, List.mem_filter]
      exact ⟨hq.hin i hi x hx, by rw [(hq.qs i hi x hx).gone]; rfl⟩
    · rw [← hq.cnt, a6, List.filter_filter]
      congr 1
      exact List.filter_congr (fun id _ => by rw [hfr]; simp)
  · have ht := h.jt
    refine ⟨fun hb => by rw [a7]; exact ht.busy hb, fun hb => by rw [a7]; exact ht.idle hb, ht.listed, ht.lt, ht.nd, fun i hi => ?_, ht.calm, ht.de, fun ho => ht.rem (by rw [← a8]; exact ho)⟩
    cases hb : p.busy with
    | true =>
      have : (b.stands true).used = b.used := rfl
      rw [this]
      exact ht.used i hi
    | false =>
      obtain ⟨h1, h2⟩ := hI hb
      have e : p.st.fresh ++ p.st.old = [] := by show p.tn.fresh ++ p.tn.old = []; rw [h1, h2]; rfl
      rw [e] at hi
      cases hi
  · intro i hi hov j hj
    rw [a4, a10]
    rw [a11] at hov
    exact h.jl e i hi hov j hj
  · intro i hi x r hx
    obtain ⟨k1, k2⟩ := h.jf e i hi x r hx
    exact ⟨fun hp => k1 (by rw [← hfr]; exact hp), fun y hy => by rw [hfr]; exact k2 y hy⟩
  · intro i hi x r hx hp
    rw [hfr] at hp ⊢
    exact h.js e i hi x r hx hp
  · intro i hi
    cases hb : p.busy with
    | true =>
      have : (b.stands true).turn = b.turn := rfl
      rw [this]
      exact h.ju e i hi
    | false =>
      obtain ⟨h1, _⟩ := hI hb
      have hi' : i ∈ p.tn.fresh := hi
      rw [h1] at hi'
      cases hi'
  · intro i m hmi hi hon n1 n2
    rw [ep] at hon ⊢
    obtain ⟨_, _, K, hK, h1, h2⟩ := fairs_window h e i m hmi hi hon
    refine ⟨K, ?_, h1, h2⟩
    have eo : owed p.st (b.stands p.busy) i m = owed p.st b i m := by unfold owed; rw [a9]
    rw [eo]
    exact hK
  · intro i hi pre x post hx hp
    rw [hfr] at hp ⊢
    exact h.jo e i hi pre x post hx hp
  · rw [ep] at hon
    obtain ⟨n1, n2, _⟩ := fairs_window h e i m hmi hi hon
    exact ⟨n1, n2⟩

end Go.Proofs.Ytnkicbopebgppaa

/-! Another configuration; all that waits goes; a new port. -/
namespace Go.Proofs.Ytnkicbopebgppaa
open Fl

def Fq.freed (f : Fq) : Fq := { f with first := -1, soon := -1 }

def Bo.changes (b : Bo) : Bo :=
  { b with f := b.f.map Fq.freed, old := true, pairs := fun m => { b.pairs m with on := false }, used := fun _ => true, turn := fun _ => 0 }

theorem changes_fr (b : Bo) (id : Nat) : b.changes.fr id = (b.fr id).freed := by
  show (b.f.map Fq.freed).getD id noFq = (b.f.getD id noFq).freed
  simp only [List.getD, List.getElem?_map]
  cases b.f[id]? <;> rfl

theorem JQ.freed {c : Cf} {now ids : Nat} {q : Nat → List Fm} {b b' : Bo} (h : JQ c now ids q b) (c' : Cf) (hc : c'.ok) (hb : c'.buckets = c.buckets) (hl : c'.length = c.length) (k1 : b'.on = c') (k2 : b'.f = b.f.map Fq.freed) (k3 : b'.last = b.last) (k4 : b'.size = b.size) (k5 : b'.when_ = b.when_) (k6 : b'.here = b.here) : JQ c' now ids q b' := by
  have hfr : ∀ id, b'.fr id = (b.fr id).freed := by
    intro id
    rw [← changes_fr]
    show frAt b'.f id = frAt (b.f.map Fq.freed) id
    rw [k2]
  refine ⟨k1, hc, by rw [k2, List.length_map]; exact h.len, fun i hi x hx => ?_, fun i hi => h.inc i (by omega), fun i j hi hj => h.dis i j (by omega) (by omega), fun i hi => by rw [k4]; exact h.size i (by omega), by rw [k5]; exact h.when_, by rw [k6]; exact h.nd, fun i hi => by rw [k6]; exact h.hin i (by omega), by rw [k6]; exact h.hlt, ?_, fun id hid => by rw [hfr]; exact h.able id hid, fun i hi => by rw [k3]; exact h.ll i (by omega), fun id hid hg => ?_⟩
  · have k := h.qs i (by omega) x hx
    exact ⟨k.lt, by rw [hfr]; exact k.s, by rw [hfr]; exact k.at_, by rw [hfr]; exact k.gone, by rw [k3]; exact k.last, k.one, by rw [hl]; exact k.le, k.si⟩
  · rw [k6, hb, ← h.cnt]
    congr 1
    exact List.filter_congr (fun id _ => by rw [hfr]; rfl)
  · rw [k6] at hid
    rw [hfr] at hg
    obtain ⟨i, hi, hx⟩ := h.hq id hid hg
    exact ⟨i, by omega, hx⟩

/-- Nothing is claimed any longer. -/
theorem J.changes {hd : Nat} {s : St} {b : Bo} (h : J hd s b) : J hd s b.changes := by
  have ht := h.jt
  refine ⟨h.jq.freed s.c h.jq.cok rfl rfl h.jq.on rfl rfl rfl rfl rfl, ⟨ht.busy, ht.idle, ht.listed, ht.lt, ht.nd, fun _ _ => rfl, ht.calm, ht.de, fun e => by cases e⟩, fun e => h.jl e, fun e i hi x r hx => ?_, fun e i hi x r hx hp => ?_, fun e i hi => ?_, fun e i m _ _ hon => (by cases hon), fun e i hi pre x post hx hp => ?_⟩
  · refine ⟨fun hp => ?_, fun y _ => ?_⟩
    · rw [changes_fr] at hp
      have hp' : (0 : Int) ≤ -1 := hp
      omega
    · rw [changes_fr]
      show (-1 : Int) < 0
      omega
  · rw [changes_fr] at hp
    have hp' : (0 : Int) ≤ -1 := hp
    omega
  · have := (ht.de i (List.mem_append_left _ hi)).2
    show ((0 : Nat) : Int) ≤ _
    omega
  · rw [changes_fr] at hp
    have hp' : (0 : Int) ≤ -1 := hp
    omega

/-- The port takes the configuration and keeps its buckets. -/
theorem J.adopts {hd : Nat} {p : Pt} {b : Bo} (h : J hd p.st b) (hbu : p.c.buckets ≤ 16) (c : Cf) (hc : c.ok) (hk : p.c.keeps c) :
    J hd (Pt.st { p with c := c, tn := p.tn.limitTo c.quantum 16 }) ({ b.changes with on := c } : Bo).clears := by
  have ht := h.jt
  have hb1 : c.buckets = p.c.buckets := hk.1
  have hl1 : c.length = p.c.length := hk.2.2
  have hq1 := hc.q1
  have hl0 := hc.l1
  have hfr : ∀ id, (({ b.changes with on := c } : Bo).clears).fr id = (b.fr id).freed := fun id => changes_fr b id
  have hde : ∀ i ∈ p.tn.fresh ++ p.tn.old, 1 - (c.length : Int) ≤ (p.tn.limitTo c.quantum 16).deficit i ∧ (p.tn.limitTo c.quantum 16).deficit i ≤ c.quantum := by
    intro i hi
    have h1 := ht.de i hi
    have h2 : 1 - (p.c.length : Int) ≤ p.tn.deficit i := h1.1
    have h3 : i < p.c.buckets := ht.lt i hi
    show 1 - (c.length : Int) ≤ (if i < 16 ∧ (c.quantum : Int) < p.tn.deficit i then (c.quantum : Int) else p.tn.deficit i) ∧ _ ≤ _
    show 1 - (c.length : Int) ≤ (if i < 16 ∧ (c.quantum : Int) < p.tn.deficit i then (c.quantum : Int) else p.tn.deficit i) ∧ (if i < 16 ∧ (c.quantum : Int) < p.tn.deficit i then (c.quantum : Int) else p.tn.deficit i) ≤ c.quantum
    split <;> omega
  refine ⟨h.jq.freed c hc hb1 hl1 rfl rfl rfl rfl rfl rfl, ⟨ht.busy, ht.idle, fun i hi => ht.listed i (by show i < p.c.buckets; have hi' : i < c.buckets := hi; omega), fun i hi => ?_, ht.nd, fun _ _ => rfl, fun i hi => ht.calm i (by show i < p.c.buckets; have hi' : i < c.buckets := hi; omega), hde, fun e => by cases e⟩, fun _ i _ hov => (by cases hov), fun e i hi x r hx => ?_, fun e i hi x r hx hp => ?_, fun e i hi => ?_, fun e i m _ _ hon => (by cases hon), fun e i hi pre x post hx hp => ?_⟩
  · show i < c.buckets
    rw [hb1]
    exact ht.lt i hi
  · refine ⟨fun hp => ?_, fun y _ => ?_⟩
    · rw [hfr] at hp
      have hp' : (0 : Int) ≤ -1 := hp
      omega
    · rw [hfr]
      show (-1 : Int) < 0
      omega
  · rw [hfr] at hp
    have hp' : (0 : Int) ≤ -1 := hp
    omega
  · have := (hde i (List.mem_append_left _ hi)).2
    show ((0 : Nat) : Int) ≤ (c.quantum : Int) - (p.tn.limitTo c.quantum 16).deficit i
    omega
  · rw [hfr] at hp
    have hp' : (0 : Int) ≤ -1 := hp
    omega

theorem J.drops5 {hd : Nat} (i : Nat) (rest : List Fm) : ∀ (d : List Fm) {s : St} {b : Bo}, J hd s b → i < s.c.buckets → s.q i = d ++ rest →
    EvsOk hd s.now b (d.map (fun f => ⟨s.now, 5, f.id, i, f.s⟩)) ∧ J hd (s.pop i rest) (b.events (d.map (fun f => ⟨s.now, 5, f.id, i, f.s⟩)))
  | [], s, b, h, _, hq => by
    refine ⟨trivial, ?_⟩
    have : s.pop i rest = s := St.eq rfl rfl rfl rfl (setAt_self _ _ _ (by rw [hq]; rfl)) rfl rfl rfl rfl rfl
    rw [this]
    exact h
  | y :: d, s, b, h, hi, hq => by
    obtain ⟨e1, e2⟩ := h.drop i hi y (d ++ rest) hq 5 ⟨by omega, by omega⟩ (fun e => by omega) (fun _ e => by omega)
    have hq2 : (s.pop i (d ++ rest)).q i = d ++ rest := setAt_same _ _ _
    obtain ⟨e3, e4⟩ := J.drops5 i rest d e2 hi hq2
    refine ⟨⟨e1, e3⟩, ?_⟩
    have : (s.pop i (d ++ rest)).pop i rest = s.pop i rest := St.eq rfl rfl rfl rfl (setAt_twice _ _ _ _) rfl rfl rfl rfl rfl
    rw [this] at e4
    exact e4

def St.flushTo (s : St) (n : Nat) : St := { s with q := fun i => if i < n then [] else s.q i }

theorem J.flushes {hd : Nat} (bk : Nat → Bk) : ∀ (n : Nat) {s : St} {b : Bo}, J hd s b → n ≤ s.c.buckets → (∀ i, s.q i = (bk i).q) → EvsOk hd s.now b (flushEv s.now bk n) ∧ J hd (s.flushTo n) (b.events (flushEv s.now bk n))
  | 0, s, b, h, _, _ => by
    refine ⟨trivial, ?_⟩
    have : s.flushTo 0 = s := St.eq rfl rfl rfl rfl (by funext i; show (if i < 0 then [] else s.q i) = s.q i; rw [if_neg (by omega)]) rfl rfl rfl rfl rfl
    rw [this]
    exact h
  | n + 1, s, b, h, hn, hq => by
    obtain ⟨e1, e2⟩ := J.flushes bk n h (by omega) hq
    obtain ⟨e3, e4⟩ := J.drops5 n [] (bk n).q e2 (show n < s.c.buckets by omega) (by show (if n < n then [] else s.q n) = (bk n).q ++ []; rw [if_neg (by omega), List.append_nil]; exact hq n)
    refine ⟨e1.append e3, ?_⟩
    show J hd (s.flushTo (n + 1)) (b.events (flushEv s.now bk n ++ _))
    rw [Bo.events_append]
    have : (s.flushTo n).pop n [] = s.flushTo (n + 1) := by
      refine St.eq rfl rfl rfl rfl ?_ rfl rfl rfl rfl rfl
      funext i
      show setAt (fun i => if i < n then [] else s.q i) n [] i = if i < n + 1 then [] else s.q i
      by_cases e : i = n
      · subst e; rw [setAt_same, if_pos (by omega)]
      · rw [setAt_other _ _ _ _ e]
        by_cases e2 : i < n
        · rw [if_pos e2, if_pos (by omega)]
        · rw [if_neg e2, if_neg (by omega)]
    rw [this] at e4
    exact e4

/-- Nothing is known of any bucket. -/
def Bo.news (b : Bo) (c : Cf) : Bo :=
  { b with on := c, last := fun _ => -1, sent := fun _ => 0, turn := fun _ => 0, used := fun _ => false, size := fun _ => 0, left := fun _ => 0, over := fun _ => false, pairs := fun _ => ⟨false, 0, 0⟩ }

theorem J.news {hd : Nat} {s : St} {b : Bo} (h : J hd s b) (hq : ∀ i, i < s.c.buckets → s.q i = []) (ho : b.old = true) (c : Cf) (hc : c.ok) :
    J hd { s with c := c, q := fun _ => [], tm := fun _ => false, fresh := [], old := [], de := fun _ => 0 } (b.news c) := by
  have ht := h.jt
  have hfr : ∀ id, (b.news c).fr id = b.fr id := fun _ => rfl
  have hg : ∀ id ∈ b.here, (b.fr id).gone = false → False := by
    intro id hid hg
    obtain ⟨i, hi, x, hx, _⟩ := h.jq.hq id hid hg
    rw [hq i hi] at hx
    cases hx
  refine ⟨⟨rfl, hc, h.jq.len, fun _ _ _ hx => (by cases hx), fun _ _ => List.Pairwise.nil, fun _ _ _ _ _ hx => (by cases hx), fun _ _ => rfl, h.jq.when_, h.jq.nd, fun _ _ _ hx => (by cases hx), h.jq.hlt, ?_, h.jq.able, fun _ _ => by show (-1 : Int) < _; omega, fun id hid hgo => (hg id hid hgo).elim⟩,
    ⟨ht.busy, ht.idle, fun _ _ hn => absurd rfl hn, fun _ hi => (by cases hi), List.Pairwise.nil, fun _ hi => (by cases hi), fun _ _ _ => rfl, fun _ hi => (by cases hi), fun e => by rw [show (b.news c).old = b.old from rfl, ho] at e; cases e⟩, fun _ i _ hov => (by cases hov), fun _ _ _ _ _ hx => (by cases hx), fun _ _ _ _ _ hx => (by cases hx), fun _ _ hi => (by cases hi), fun _ _ _ _ _ hon => (by cases hon), fun _ i _ pre x post hx => ?_⟩
  · have e1 : framesQ (fun _ => ([] : List Fm)) c.buckets = 0 := framesQ_none _ _ (fun _ _ => rfl)
    show (b.here.filter (fun id => !(b.fr id).gone)).length = framesQ (fun _ => []) c.buckets
    rw [e1, h.jq.cnt]
    exact framesQ_none _ _ hq
  · have hx' : ([] : List Fm) = pre ++ x :: post := hx
    simp at hx'

/-- All that waits goes, and the buckets are made anew. -/
theorem Tr.renews {hd : Nat} {p : Pt} {b : Bo} (h : J hd p.st b) (c : Cf) (hc : c.ok) : EvsOk hd p.now b.changes (flushEv p.now p.bk p.c.buckets) ∧ J hd (p.flush.renew c).st ((b.changes.events (flushEv p.now p.bk p.c.buckets)).news c) := by
  obtain ⟨e1, e2⟩ := J.flushes p.bk p.c.buckets h.changes (Nat.le_refl _) (fun _ => rfl)
  refine ⟨e1, ?_⟩
  have hold : ∀ (l : List Ev) (b : Bo), b.old = true → (∀ e ∈ l, 3 ≤ e.kind) → (b.events l).old = true := by
    intro l
    induction l with
    | nil => intro b h _; exact h
    | cons e l ih =>
      intro b h hk
      rw [Bo.events_cons]
      refine ih _ ?_ (fun e he => hk e (by simp [he]))
      rw [(b.event_drop e (hk e (by simp))).2.1]
      exact h
  have hk : ∀ n, ∀ e ∈ flushEv p.now p.bk n, 3 ≤ e.kind := by
    intro n
    induction n with
    | zero => intro e he; cases he
    | succ n ih =>
      intro e he
      rcases List.mem_append.1 (show e ∈ flushEv p.now p.bk n ++ _ from he) with he | he
      · exact ih e he
      · rw [List.mem_map] at he
        obtain ⟨f, _, rfl⟩ := he
        show 3 ≤ 5
        omega
  have := e2.news (fun i hi => if_pos hi) (hold _ _ rfl (hk _)) c hc
  exact this.of_eq (St.eq rfl rfl rfl rfl rfl rfl rfl rfl rfl rfl)

/-- A new port, and its book. -/
def Bo.begun (c : Cf) : Bo := ⟨c, [], [], 0, false, 0, fun _ => -1, fun _ => 0, fun _ => 0, fun _ => false, fun _ => 0, fun _ => 0, fun _ => false, fun _ => ⟨false, 0, 0⟩⟩

theorem JB.begun (hd : Nat) (c : Cf) (hc : c.ok) : JB hd (Pt.made c) (Bo.begun c) := by
  have hfr : (Pt.made c).frames = 0 := framesTo_none c.buckets
  have hby : bytesTo (Pt.made c).bk c.buckets = 0 := bytesTo_zero _ _ hfr
  refine ⟨⟨⟨rfl, hc, rfl, fun _ _ _ hx => (by cases hx), fun _ _ => List.Pairwise.nil, fun _ _ _ _ _ hx => (by cases hx), fun _ _ => rfl, Nat.le_refl _, List.Pairwise.nil, fun _ _ _ hx => (by cases hx), fun _ hx => (by cases hx), ?_, fun _ hid => (by cases hid), fun _ _ => by show (-1 : Int) < _; omega, fun _ hx => by cases hx⟩,
    ⟨fun e => (by cases e), fun _ => Nat.le_refl _, fun _ _ hn => absurd rfl hn, fun _ hi => (by cases hi), List.Pairwise.nil, fun _ hi => (by cases hi), fun _ _ _ => rfl, fun _ hi => (by cases hi), fun _ e => by cases e⟩, fun _ i _ hov => (by cases hov), fun _ _ _ _ _ hx => (by cases hx), fun _ _ _ _ _ hx => (by cases hx), fun _ _ hi => (by cases hi), fun _ _ _ _ _ hon => (by cases hon), fun _ i _ pre x post hx => ?_⟩,
    Pt.made_ok c hc, fun _ => ⟨rfl, rfl⟩, fun e => (by cases e), by rw [hfr]; omega, fun _ => ?_, fun _ _ _ _ _ hon => (by cases hon), fun _ hx => by cases hx⟩
  · exact (framesQ_none _ _ (fun _ _ => rfl)).symm
  · have hx' : ([] : List Fm) = pre ++ x :: post := hx
    simp at hx'
  · have h2 := hc.m1
    refine ⟨by rw [hfr]; exact Nat.zero_le _, ?_⟩
    show bytesTo (Pt.made c).bk c.buckets + 64 * (Pt.made c).frames ≤ c.memory
    rw [hby, hfr]; omega

end Go.Proofs.Ytnkicbopebgppaa

/-! The port's calls, and the book behind them. -/
namespace Go.Proofs.Ytnkicbopebgppaa
open Fl

/-- The bytes that leave a bucket. -/
def goneOf (i : Nat) : List Ev → Nat
  | [] => 0
  | e :: l => (if e.b = i then e.s.size else 0) + goneOf i l

theorem events_size {hd N : Nat} (i : Nat) : ∀ (l : List Ev) {b : Bo}, EvsOk hd N b l → (b.events l).size i + goneOf i l = b.size i
  | [], b, _ => rfl
  | e :: l, b, h => by
    have ih := events_size i l h.2
    have k := b.event_keeps e
    rw [Bo.events_cons]
    show _ + ((if e.b = i then e.s.size else 0) + goneOf i l) = _
    have hs : (b.event e).size i = setAt b.size e.b (b.size e.b - (b.fr e.id).s.size) i := by rw [k.size]
    have h1 := h.1.sz
    have h2 := h.1.fit
    by_cases ei : e.b = i
    · subst ei
      rw [setAt_same] at hs
      rw [if_pos rfl]
      omega
    · rw [setAt_other _ _ _ _ (fun e => ei e.symm)] at hs
      rw [if_neg ei]
      omega

theorem events_on : ∀ (l : List Ev) (b : Bo), (b.events l).on = b.on
  | [], _ => rfl
  | e :: l, b => by rw [Bo.events_cons, events_on l]; exact (b.event_keeps e).on

theorem bytesTo_less (bk bk' : Nat → Bk) : ∀ n, (∀ i, i < n → qBytes (bk' i).q ≤ qBytes (bk i).q) → bytesTo bk' n ≤ bytesTo bk n
  | 0, _ => Nat.le_refl _
  | n + 1, h => by
    have h1 := bytesTo_less bk bk' n (fun i hi => h i (by omega))
    have h2 := h n (by omega)
    show bytesTo bk' n + qBytes (bk' n).q ≤ bytesTo bk n + qBytes (bk n).q
    omega

theorem Tr.less {hd N : Nat} {p p' : Pt} {b : Bo} {l : List Ev} (h : J hd p.st b) (T : Tr hd N p b p' l) (hc : p'.c = p.c) (hf : p'.frames ≤ p.frames) : p'.memory ≤ p.memory := by
  have h1 : bytesTo p'.bk p.c.buckets ≤ bytesTo p.bk p.c.buckets := by
    refine bytesTo_less _ _ _ (fun i hi => ?_)
    have e1 := T.j.jq.size i (by show i < p'.c.buckets; rw [hc]; exact hi)
    have e2 := h.jq.size i hi
    have e3 := events_size i l T.ok
    have e1' : (b.events l).size i = qBytes (p'.bk i).q := e1
    have e2' : b.size i = qBytes (p.bk i).q := e2
    omega
  have hf' : framesTo p'.bk p'.c.buckets ≤ framesTo p.bk p.c.buckets := hf
  show bytesTo p'.bk p'.c.buckets + 64 * framesTo p'.bk p'.c.buckets ≤ bytesTo p.bk p.c.buckets + 64 * framesTo p.bk p.c.buckets
  rw [hc] at hf' ⊢
  omega

theorem tooMuch_lim (p : Pt) (h : p.tooMuch = false) : p.frames ≤ p.c.packets ∧ p.memory ≤ p.c.memory := by
  unfold Pt.tooMuch at h
  simp only [Bool.or_eq_false_iff, decide_eq_false_iff_not] at h
  omega

theorem shed_lim (p : Pt) (hok : p.ok) : p.shed.frames ≤ p.shed.c.packets ∧ p.shed.memory ≤ p.shed.c.memory :=
  tooMuch_lim _ ((Pt.sheds_ok p.frames p hok).2.2.1 (Nat.le_refl _))

/-- What a call and its booking come to. -/
structure Went (hd N : Nat) (p : Pt) (b1 : Bo) (p' : Pt) (l : List Ev) : Prop where
  done : p'.done = p.done ++ l
  ok : EvsOk hd N b1 l
  st : StOk hd p' (b1.events l)
  jb : JB hd p' ((b1.events l).stands p'.busy)

theorem JB.arriveAt {hd : Nat} {p : Pt} {b : Bo} (h : JB hd p b) (k : Nat) (hk : k < p.c.buckets) (t : ByteArray) (h1 : 1 ≤ t.size) (h2 : t.size ≤ p.c.length) (able : Bool) (hable : able = true → canB t = true) :
    ∃ l, Went hd p.now p ((b.joins k (b.claimed k t p.now able)).clears) (p.arriveAt k t) l ∧
      (∀ e ∈ l, e.id = p.ids → e.b = k) ∧ (∀ i, i < p.c.buckets → qBytes ((p.arriveAt k t).bk i).q + goneOf i l = b.size i + if i = k then t.size else 0) := by
  obtain ⟨l, T, hI, hup⟩ := Tr.arriveAt h.j h.ok h.f64 h.pr h.up k hk t h1 h2 able hable
  have J1 := p.joined_ok h.ok h.f64 k t hk h1 h2
  have ok1 := J1.1
  have S0 := (p.joined k t).shed_ok ok1
  have F0 := (p.joined k t).shed.fed_ok S0.1
  have hcc : (p.arriveAt k t).c = p.c := F0.2.1.c.trans S0.2.1.c
  have j1 := h.j.join h.ok h.pr k hk t h1 h2 able hable
  have hlim : hd = 2 → (p.arriveAt k t).frames ≤ (p.arriveAt k t).c.packets ∧ (p.arriveAt k t).memory ≤ (p.arriveAt k t).c.memory := by
    intro _
    obtain ⟨l1, T1⟩ := Tr.shed j1 ok1
    have S := (p.joined k t).shed_ok ok1
    obtain ⟨l2, T2, _⟩ := Tr.fed T1.j S.1
    have F := (p.joined k t).shed.fed_ok S.1
    have L := shed_lim _ ok1
    have hc : (p.arriveAt k t).c = (p.joined k t).shed.c := F.2.1.c
    have hm := Tr.less T1.j T2 hc F.2.2
    have hf : (p.arriveAt k t).frames ≤ (p.joined k t).shed.frames := F.2.2
    have hm' : (p.arriveAt k t).memory ≤ (p.joined k t).shed.memory := hm
    rw [hc]
    exact ⟨Nat.le_trans hf L.1, Nat.le_trans hm' L.2⟩
  have hS := StOk.of T.j hI hup hlim
  refine ⟨l, ⟨T.done, T.ok, hS, JB.of T.j F0.1 hI hup (Nat.le_trans F0.2.2 S0.2.2.1) hlim⟩, fun e he hid => ?_, fun i hi => ?_⟩
  · obtain ⟨x, hx, hxid⟩ := T.src e he
    have hx' : x ∈ (p.joined k t).st.q e.b := hx
    have hnew : (⟨p.ids, t, p.now⟩ : Fm) ∈ (p.joined k t).st.q k := by
      show _ ∈ (fun j => ((p.put k { p.bk k with q := (p.bk k).q ++ [⟨p.ids, t, p.now⟩] }).bk j).q) k
      rw [put_q, setAt_same]
      simp
    have hev : e.b < (p.joined k t).st.c.buckets := by
      have all : ∀ (l : List Ev) (b : Bo), EvsOk hd p.now b l → b.on = p.c → ∀ e ∈ l, e.b < p.c.buckets := by
        intro l
        induction l with
        | nil => intro b _ _ e he; cases he
        | cons a l ih =>
          intro b hb hon e he
          rcases List.mem_cons.1 he with e1 | e1
          · rw [e1, ← hon]; exact hb.1.bu
          · exact ih _ hb.2 ((b.event_keeps a).on.trans hon) e e1
      exact all l _ T.ok h.j.jq.on e he
    exact j1.jq.dis e.b k hev hk x hx' _ hnew (by show x.id = p.ids; omega)
  · have e1 : ((((b.joins k (b.claimed k t p.now able)).clears)).events l).size i = qBytes ((p.arriveAt k t).bk i).q := T.j.jq.size i (by show i < (p.arriveAt k t).c.buckets; rw [hcc]; exact hi)
    have e2 := events_size i l T.ok
    have e3 : (((b.joins k (b.claimed k t p.now able)).clears)).size i = b.size i + if i = k then t.size else 0 := by
      show setAt b.size k (b.size k + (b.claimed k t p.now able).s.size) i = _
      rw [(b.claimed_plain _ _ _ _).1]
      by_cases e : i = k
      · rw [e, setAt_same, if_pos rfl]
      · rw [setAt_other _ _ _ _ e, if_neg e]; rfl
    omega

theorem JB.arrive {hd : Nat} {p : Pt} {b : Bo} (h : JB hd p b) (k : Nat) (t : ByteArray) (hk : place p.c t = k) (h1 : 1 ≤ t.size) (h2 : t.size ≤ p.c.length) (able : Bool) (hable : able = true → canB t = true) (p' : Pt) (hp : p.arrive t = p') :
    k < p.c.buckets ∧ ∃ l, Went hd p.now p ((b.joins k (b.claimed k t p.now able)).clears) p' l ∧ (∀ e ∈ l, e.id = p.ids → e.b = k) ∧ (∀ i, i < p.c.buckets → qBytes (p'.bk i).q + goneOf i l = b.size i + if i = k then t.size else 0) := by
  have hlt := place_lt p.c t h.ok.c
  rw [hk] at hlt
  have e : p.arriveAt k t = p' := by
    rw [← hp]
    unfold Pt.arrive Pt.arriveAt
    rw [hk]
  rw [← e]
  exact ⟨hlt, JB.arriveAt h k hlt t h1 h2 able hable⟩

theorem clears_J {hd : Nat} {s : St} {b : Bo} (h : J hd s b) : J hd s b.clears :=
  ⟨⟨h.jq.on, h.jq.cok, h.jq.len, fun i hi x hx => let k := h.jq.qs i hi x hx; ⟨k.lt, k.s, k.at_, k.gone, k.last, k.one, k.le, k.si⟩, h.jq.inc, h.jq.dis, h.jq.size, h.jq.when_, h.jq.nd, h.jq.hin, h.jq.hlt, h.jq.cnt, h.jq.able, h.jq.ll, h.jq.hq⟩,
    ⟨h.jt.busy, h.jt.idle, h.jt.listed, h.jt.lt, h.jt.nd, h.jt.used, h.jt.calm, h.jt.de, h.jt.rem⟩, fun _ i _ hov => (by cases hov), fun e => h.jf e, fun e => h.js e, fun e => h.ju e, fun e => h.ja e, fun e => h.jo e⟩

theorem JB.advance {hd : Nat} {p : Pt} {b : Bo} (h : JB hd p b) (n : Nat) (hn : p.now + n ≤ 4611686018427387904) : ∃ l, Went hd (p.now + n) p b.clears (p.advance n) l := by
  obtain ⟨l, T, hI, hup⟩ := Tr.advance (clears_J h.j) h.ok h.idle n hn
  have A := p.advance_ok h.ok n hn
  have hlim : hd = 2 → (p.advance n).frames ≤ (p.advance n).c.packets ∧ (p.advance n).memory ≤ (p.advance n).c.memory := by
    intro e
    have L := h.lim e
    have hm := Tr.less (clears_J h.j) T A.2.1 A.2.2.2.2
    rw [A.2.1]
    exact ⟨Nat.le_trans A.2.2.2.2 L.1, Nat.le_trans hm L.2⟩
  exact ⟨l, T.done, T.ok, StOk.of T.j hI hup hlim, JB.of T.j A.1 hI hup (Nat.le_trans A.2.2.2.2 h.f64) hlim⟩

theorem JB.adopt {hd : Nat} {p : Pt} {b : Bo} (h : JB hd p b) (c : Cf) (hc : c.ok) (hk : p.c.keeps c) : ∃ l, Went hd p.now p (({ b.changes with on := c } : Bo).clears) (p.configure c) l ∧ ∀ e ∈ l, e.kind = 3 := by
  have j1 := h.j.adopts h.ok.c.b2 c hc hk
  have hok1 : Pt.ok { p with c := c, tn := p.tn.limitTo c.quantum 16 } := by
    have e1 : c.buckets = p.c.buckets := hk.1
    refine ⟨hc, h.ok.now, fun i => ?_, ?_, ?_, h.ok.up, h.ok.ev, ?_⟩
    · have hb := h.ok.bk i
      exact ⟨fun x hx => by have := hb.one x hx; rw [← hk.2.2] at this; exact this, hb.si, hb.ab, hb.ab1, hb.nx, hb.cn, hb.la⟩
    · show framesTo p.bk c.buckets ≤ 65
      rw [e1]; exact h.ok.fr
    · show (p.tn.limitTo c.quantum 16).good c.buckets
      rw [e1]; exact p.tn.limit_good _ _ _ h.ok.tn hc.q2
    · show p.done.length + framesTo p.bk c.buckets ≤ p.ids
      rw [e1]; exact h.ok.dn
  obtain ⟨l, T⟩ := Tr.shed j1 hok1
  have S := Pt.shed_ok _ hok1
  have ec : p.configure c = Pt.shed { p with c := c, tn := p.tn.limitTo c.quantum 16 } := by unfold Pt.configure; rw [if_pos hk]
  rw [ec]
  have L := shed_lim _ hok1
  have hI : Idle (Pt.shed { p with c := c, tn := p.tn.limitTo c.quantum 16 }) := by
    intro hb
    rw [S.2.2.2.1] at hb
    rw [S.2.2.2.2.2]
    exact h.idle hb
  have hup : (Pt.shed { p with c := c, tn := p.tn.limitTo c.quantum 16 }).busy = true → (Pt.shed { p with c := c, tn := p.tn.limitTo c.quantum 16 }).now < (Pt.shed { p with c := c, tn := p.tn.limitTo c.quantum 16 }).upto := by
    intro hb
    rw [S.2.2.2.1] at hb
    rw [S.2.2.2.2.1, S.2.1.now]
    exact h.up hb
  refine ⟨l, ⟨T.done, T.ok, StOk.of T.j hI hup (fun _ => L), JB.of T.j S.1 hI hup S.2.2.1 (fun _ => L)⟩, ?_⟩
  have kinds : ∀ (n : Nat) (p : Pt) (m : List Ev), (Pt.sheds n p).done = p.done ++ m → ∀ e ∈ m, e.kind = 3 := by
    intro n
    induction n with
    | zero =>
      intro p m hm e he
      have : m = [] := by
        have hm' : p.done = p.done ++ m := hm
        simpa using hm'
      rw [this] at he; cases he
    | succ n ih =>
      intro p m hm e he
      rw [Pt.sheds] at hm
      by_cases ht : p.tooMuch = true
      · rw [if_pos ht] at hm
        obtain ⟨m2, hm2⟩ : ∃ m2, (Pt.sheds n p.shedOnce).done = p.shedOnce.done ++ m2 := by
          have g : ∀ (n : Nat) (p : Pt), ∃ m2, (Pt.sheds n p).done = p.done ++ m2 := by
            intro n
            induction n with
            | zero => intro p; exact ⟨[], by simp [Pt.sheds]⟩
            | succ n ih =>
              intro p
              rw [Pt.sheds]
              by_cases ht : p.tooMuch = true
              · rw [if_pos ht]
                obtain ⟨m2, h2⟩ := ih p.shedOnce
                exact ⟨_, by rw [h2]; exact List.append_assoc _ _ _⟩
              · rw [if_neg ht]; exact ⟨[], by simp⟩
          exact g n p.shedOnce
        have hd : p.shedOnce.done = p.done ++ [⟨p.now, 3, (p.bk p.fullest).drop.1.id, p.fullest, (p.bk p.fullest).drop.1.s⟩] := rfl
        rw [hm2, hd, List.append_assoc] at hm
        have hm3 := List.append_cancel_left hm
        rw [← hm3] at he
        rcases List.mem_append.1 he with he | he
        · rw [List.mem_singleton] at he; rw [he]
        · exact ih p.shedOnce m2 hm2 e he
      · rw [if_neg ht] at hm
        have : m = [] := by simpa using hm
        rw [this] at he; cases he
  exact kinds _ _ l T.done

theorem flushEv_kind (now : Nat) (bk : Nat → Bk) : ∀ n, ∀ e ∈ flushEv now bk n, e.kind = 5
  | 0, e, he => by cases he
  | n + 1, e, he => by
    rcases List.mem_append.1 (show e ∈ flushEv now bk n ++ _ from he) with he | he
    · exact flushEv_kind now bk n e he
    · rw [List.mem_map] at he
      obtain ⟨f, _, rfl⟩ := he
      rfl

/-- All goes, buckets anew: what Configure and Reset come to. -/
theorem JB.renew {hd : Nat} {p : Pt} {b : Bo} (h : JB hd p b) (c : Cf) (hc : c.ok) (p' : Pt) (hp : p' = p.flush.renew c ∨ p' = { p.flush.renew c with done := [] }) :
    EvsOk hd p.now b.changes (flushEv p.now p.bk p.c.buckets) ∧ StOk hd p' ((b.changes.events (flushEv p.now p.bk p.c.buckets)).news c) ∧ JB hd p' (((b.changes.events (flushEv p.now p.bk p.c.buckets)).news c).stands p'.busy) := by
  obtain ⟨e1, e2⟩ := Tr.renews h.j c hc
  have R := p.renew_ok h.ok c hc
  have hst : p'.st = (p.flush.renew c).st := by rcases hp with rfl | rfl <;> rfl
  have hfr : p'.frames = 0 := by rcases hp with rfl | rfl <;> exact R.2
  have hok : p'.ok := by
    rcases hp with rfl | rfl
    · exact R.1
    · exact ⟨R.1.c, R.1.now, R.1.bk, R.1.fr, R.1.tn, R.1.up, fun e he => (by cases he), by have h1 : (p.flush.renew c).frames = 0 := R.2; show 0 + (p.flush.renew c).frames ≤ _; rw [h1]; exact Nat.zero_le _⟩
  have hI : Idle p' := fun _ => by rcases hp with rfl | rfl <;> exact ⟨rfl, rfl⟩
  have hup : p'.busy = true → p'.now < p'.upto := by
    rcases hp with rfl | rfl <;> exact h.up
  have hpc : p'.c = c := by rcases hp with rfl | rfl <;> rfl
  have hby : p'.memory = 0 := by
    have h0 : framesTo p'.bk p'.c.buckets = 0 := hfr
    show bytesTo p'.bk p'.c.buckets + 64 * framesTo p'.bk p'.c.buckets = 0
    rw [bytesTo_zero _ _ h0, h0]
  have hlim : hd = 2 → p'.frames ≤ p'.c.packets ∧ p'.memory ≤ p'.c.memory := fun _ => ⟨by rw [hfr]; exact Nat.zero_le _, by rw [hby]; exact Nat.zero_le _⟩
  have j2 : J hd p'.st ((b.changes.events (flushEv p.now p.bk p.c.buckets)).news c) := by rw [hst]; exact e2
  exact ⟨e1, StOk.of j2 hI hup hlim, JB.of j2 hok hI hup (by rw [hfr]; omega) hlim⟩

end Go.Proofs.Ytnkicbopebgppaa

/-! The link never rests while something waits. -/
namespace Go.Proofs.Ytnkicbopebgppaa
open Fl

theorem runs_work {hd : Nat} (stop : Nat) (hs : stop ≤ 4611686018427387904) : ∀ (n : Nat) {p : Pt} {b : Bo}, J hd p.st b → p.ok → p.now ≤ stop → Idle p →
    (Pt.runs stop n p).st.base + (Pt.runs stop n p).frames * (p.c.length * p.c.tau) ≤ p.st.base + p.frames * (p.c.length * p.c.tau)
  | 0, p, b, _, _, _, _ => Nat.le_refl _
  | n + 1, p, b, h, hok, hn, hI => by
    rw [Pt.runs]
    by_cases hg : p.busy = true ∧ p.upto ≤ stop
    · rw [if_pos hg]
      have hup := hok.up hg.1
      have hok1 := p.at_ok hok p.upto hup.1 (by omega)
      have j1 : J hd (Pt.st { p with now := p.upto, busy := false }) b := h.ends hg.1
      obtain ⟨l, T, t1, t2, t3⟩ := Tr.feed j1 hok1 rfl
      have F := Pt.feed_is _ hok1
      have t1' : (Pt.feed { p with now := p.upto, busy := false }).now = p.upto := t1
      have tc : (Pt.feed { p with now := p.upto, busy := false }).c = p.c := F.goes.c
      have ih := runs_work stop hs n T.j F.ok (by rw [t1']; exact hg.2) t2
      have hff : (Pt.feed { p with now := p.upto, busy := false }).frames ≤ p.frames := F.frames
      have hsent : (Pt.feed { p with now := p.upto, busy := false }).busy = false ∨ (Pt.feed { p with now := p.upto, busy := false }).busy = true ∧ (Pt.feed { p with now := p.upto, busy := false }).frames < p.frames := F.sent
      have t3' : (Pt.feed { p with now := p.upto, busy := false }).busy = true → p.upto < (Pt.feed { p with now := p.upto, busy := false }).upto ∧ (Pt.feed { p with now := p.upto, busy := false }).upto ≤ p.upto + p.c.length * p.c.tau := t3
      generalize Pt.feed { p with now := p.upto, busy := false } = p2 at *
      rw [tc] at ih
      refine Nat.le_trans ih ?_
      rw [St.base_busy p.st hg.1]
      show p2.st.base + p2.frames * (p.c.length * p.c.tau) ≤ p.upto + p.frames * (p.c.length * p.c.tau)
      cases hb : p2.busy with
      | false =>
        rw [St.base_idle p2.st hb]
        show p2.now + _ ≤ _
        have := Nat.mul_le_mul_right (p.c.length * p.c.tau) hff
        omega
      | true =>
        rw [St.base_busy p2.st hb]
        show p2.upto + _ ≤ _
        rcases hsent with e | ⟨_, e⟩
        · rw [hb] at e; cases e
        · have h1 := (t3' hb).2
          have h2 := Nat.mul_le_mul_right (p.c.length * p.c.tau) (show p2.frames + 1 ≤ p.frames from e)
          rw [Nat.add_mul, Nat.one_mul] at h2
          omega
    · rw [if_neg hg]
      exact Nat.le_refl _

theorem JB.rests {hd : Nat} {p : Pt} {b : Bo} (h : JB hd p b) (n : Nat) (hn : p.now + n ≤ 4611686018427387904) (hge : b.here.length * p.c.length * p.c.tau + 1 + (if p.now < b.till then b.till - p.now else 0) ≤ n) : (p.advance n).frames = 0 := by
  obtain ⟨l, T, hI, hup⟩ := Tr.advance h.j h.ok h.idle n hn
  have hw := runs_work (p.now + n) hn (p.frames + 1) h.j h.ok (by omega) h.idle
  have hlen : b.here.length = p.frames := by
    have h1 := h.j.jq.cnt
    have h2 : b.here.filter (fun id => !(b.fr id).gone) = b.here := List.filter_eq_self.2 (fun id hid => by rw [h.here id hid]; rfl)
    rw [h2] at h1
    show b.here.length = framesTo p.bk p.c.buckets
    rw [← framesQ_bk]
    exact h1
  cases hb : (p.advance n).busy with
  | false => exact (idle_frames T.j hI hb).2
  | true =>
    exfalso
    have hu := hup hb
    have hb' : (Pt.runs (p.now + n) (p.frames + 1) p).busy = true := hb
    rw [St.base_busy _ (show (Pt.runs (p.now + n) (p.frames + 1) p).st.busy = true from hb')] at hw
    have hu' : p.now + n < (Pt.runs (p.now + n) (p.frames + 1) p).upto := hu
    have hw' : (Pt.runs (p.now + n) (p.frames + 1) p).upto + (Pt.runs (p.now + n) (p.frames + 1) p).frames * (p.c.length * p.c.tau) ≤ p.st.base + p.frames * (p.c.length * p.c.tau) := hw
    have hbase : p.st.base ≤ p.now + (if p.now < b.till then b.till - p.now else 0) := by
      cases hpb : p.busy with
      | false => rw [St.base_idle p.st hpb]; exact Nat.le_add_right _ _
      | true =>
        rw [St.base_busy p.st hpb]
        have h1 := (h.j.jt.busy hpb).1
        have h2 := h.up hpb
        have h3 : b.till = p.upto := h1
        show p.upto ≤ _
        rw [h3, if_pos h2]
        omega
    rw [hlen, Nat.mul_assoc] at hge
    generalize p.frames * (p.c.length * p.c.tau) = X at *
    generalize (Pt.runs (p.now + n) (p.frames + 1) p).frames * (p.c.length * p.c.tau) = Y at *
    omega

end Go.Proofs.Ytnkicbopebgppaa

/-! Numbers that stay small. -/
namespace Go.Proofs.Ytnkicbopebgppaa
open Fl

structure BdB (m : Nat) (b : Bo) : Prop where
  ar : ∀ i, b.sent i ≤ m ∧ b.turn i ≤ m ∧ b.left i ≤ m
  pr : ∀ k, (b.pairs k).on = true → -(m : Int) ≤ (b.pairs k).least ∧ (b.pairs k).least ≤ m ∧ -(m : Int) ≤ (b.pairs k).most ∧ (b.pairs k).most ≤ m

theorem BdB.mono {m m' : Nat} {b : Bo} (h : BdB m b) (hm : m ≤ m') : BdB m' b :=
  ⟨fun i => by have := h.ar i; omega, fun k hk => by have := h.pr k hk; omega⟩

theorem BdB.event {m : Nat} {b : Bo} (h : BdB m b) (e : Ev) (hs : (b.fr e.id).s.size ≤ 200) : BdB (m + 200) (b.event e) := by
  have k := b.event_keeps e
  refine ⟨fun i => ?_, fun j hj => ?_⟩
  · have h0 := h.ar i
    have h1 : (b.event e).left i ≤ m + 200 := by
      rw [k.left]
      by_cases ei : i = e.b
      · subst ei; rw [setAt_same]; omega
      · rw [setAt_other _ _ _ _ ei]; omega
    by_cases hk : e.kind = 1 ∨ e.kind = 2
    · obtain ⟨_, _, d3, d4, _⟩ := b.event_send e hk
      refine ⟨?_, ?_, h1⟩
      · rw [d3]
        by_cases ei : i = e.b
        · subst ei; rw [setAt_same]; omega
        · rw [setAt_other _ _ _ _ ei]; omega
      · rw [d4]
        by_cases ei : i = e.b
        · subst ei; rw [setAt_same]; omega
        · rw [setAt_other _ _ _ _ ei]; omega
    · have hs : (b.event e).sent = b.sent ∧ (b.event e).turn = b.turn := by
        unfold Bo.event
        rw [if_neg hk]
        split <;> exact ⟨rfl, rfl⟩
      rw [hs.1, hs.2]
      exact ⟨by omega, by omega, h1⟩
  · rw [k.pairs] at hj ⊢
    have := h.pr j hj
    omega

theorem BdB.events {hd N m : Nat} : ∀ {l : List Ev} {b : Bo}, BdB m b → EvsOk hd N b l → BdB (m + 200 * l.length) (b.events l)
  | [], _, h, _ => h
  | e :: l, b, h, hk => by
    have h1 := h.event e hk.1.small
    have h2 := BdB.events h1 hk.2
    rw [Bo.events_cons]
    exact h2.mono (by rw [List.length_cons]; omega)

theorem EvsOk.take {hd N : Nat} : ∀ {l : List Ev} {b : Bo} (i : Nat), EvsOk hd N b l → EvsOk hd N b (l.take i)
  | [], _, _, _ => by simp only [List.take_nil]; trivial
  | _ :: _, _, 0, _ => trivial
  | e :: l, b, i + 1, h => ⟨h.1, EvsOk.take (l := l) i h.2⟩

theorem events_less {hd N : Nat} {l : List Ev} {b : Bo} (h : EvsOk hd N b l) (i : Nat) : (b.events l).size i ≤ b.size i := by
  have := events_size i l h
  omega

theorem events_len : ∀ (l : List Ev) (b : Bo), (b.events l).f.length = b.f.length
  | [], _ => rfl
  | e :: l, b => by
    rw [Bo.events_cons, events_len l, (b.event_keeps e).f, List.length_set]

theorem events_here : ∀ (l : List Ev) (b : Bo), (b.events l).here = b.here
  | [], _ => rfl
  | e :: l, b => by rw [Bo.events_cons, events_here l, (b.event_keeps e).here]

theorem BdB.clears {m : Nat} {b : Bo} (h : BdB m b) : BdB m b.clears := ⟨fun i => ⟨(h.ar i).1, (h.ar i).2.1, Nat.zero_le _⟩, h.pr⟩

theorem BdB.joins {m : Nat} {b : Bo} (h : BdB m b) (k : Nat) (fq : Fq) : BdB m (b.joins k fq) := by
  refine ⟨fun i => ⟨(h.ar i).1, ?_, (h.ar i).2.2⟩, h.pr⟩
  show (if b.size k = 0 then setAt b.turn k 0 else b.turn) i ≤ m
  have := (h.ar i).2.1
  split
  · by_cases e : i = k
    · rw [e, setAt_same]; omega
    · rw [setAt_other _ _ _ _ e]; exact this
  · exact this

theorem BdB.stands {m : Nat} {b : Bo} (h : BdB m b) (busy : Bool) : BdB m (b.stands busy) := by
  have hp : (b.stands busy).pairs = b.fairs.pairs := by
    unfold Bo.stands Bo.idles
    split <;> rfl
  have ha : (b.stands busy).sent = b.sent ∧ (b.stands busy).left = b.left ∧ ∀ i, (b.stands busy).turn i ≤ b.turn i := by
    unfold Bo.stands Bo.idles
    split
    · exact ⟨rfl, rfl, fun i => Nat.le_refl _⟩
    · exact ⟨rfl, rfl, fun i => Nat.zero_le _⟩
  refine ⟨fun i => ?_, fun k hk => ?_⟩
  · have := h.ar i
    have := ha.2.2 i
    rw [ha.1, ha.2.1]
    omega
  · rw [hp] at hk ⊢
    have e : b.fairs.pairs k = if k % b.on.buckets < k / b.on.buckets ∧ k / b.on.buckets < b.on.buckets then prNext (b.pairs k) (b.size (k / b.on.buckets)) (b.size (k % b.on.buckets)) ((b.sent (k / b.on.buckets) : Int) - b.sent (k % b.on.buckets)) else b.pairs k := rfl
    rw [e] at hk ⊢
    have h1 := h.ar (k / b.on.buckets)
    have h2 := h.ar (k % b.on.buckets)
    have h3 := h.pr k
    have d1 : -(m : Int) ≤ (b.sent (k / b.on.buckets) : Int) - b.sent (k % b.on.buckets) := by omega
    have d2 : (b.sent (k / b.on.buckets) : Int) - b.sent (k % b.on.buckets) ≤ m := by omega
    generalize (b.sent (k / b.on.buckets) : Int) - b.sent (k % b.on.buckets) = d at *
    split at hk
    · rename_i hc
      rw [if_pos hc]
      unfold prNext at hk ⊢
      split at hk
      · cases hk
      · rename_i hz
        rw [if_neg hz]
        by_cases ho : (b.pairs k).on = true
        · rw [if_pos ho]
          have := h3 ho
          refine ⟨?_, ?_, ?_, ?_⟩
          · show _ ≤ (if _ then _ else _); split <;> omega
          · show (if _ then _ else _) ≤ _; split <;> omega
          · show _ ≤ (if _ then _ else _); split <;> omega
          · show (if _ then _ else _) ≤ _; split <;> omega
        · rw [if_neg ho]
          exact ⟨d1, d2, d1, d2⟩
    · rename_i hc
      rw [if_neg hc]
      exact h3 hk

theorem BdB.changes {m : Nat} {b : Bo} (h : BdB m b) : BdB m b.changes := ⟨fun i => ⟨(h.ar i).1, Nat.zero_le _, (h.ar i).2.2⟩, fun k hk => by cases hk⟩
theorem BdB.news (m : Nat) (b : Bo) (c : Cf) : BdB m (b.news c) := ⟨fun _ => ⟨Nat.zero_le _, Nat.zero_le _, Nat.zero_le _⟩, fun k hk => by cases hk⟩
theorem BdB.begun (m : Nat) (c : Cf) : BdB m (Bo.begun c) := ⟨fun _ => ⟨Nat.zero_le _, Nat.zero_le _, Nat.zero_le _⟩, fun k hk => by cases hk⟩

end Go.Proofs.Ytnkicbopebgppaa
