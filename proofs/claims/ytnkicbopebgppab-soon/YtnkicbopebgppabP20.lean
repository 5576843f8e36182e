import Derived.Test.YtnkicbopebgppabP18
import Derived.Test.YtnkicbopebgppabP19
/-! Time passes. -/
namespace Go.Proofs.Ytnkicbopebgppab
open Go.RowKit Fl

structure PaPost (own : Nat → Nat) (w w' : World) (a hd m : Nat) (c : Cf) (ax : Nat) (p : Pt) : Prop where
  ex : ∃ own' b, WoIs own' w' a hd c m ax p b ∧ Fr WTag own own' w w'

theorem WoIs.below {own : Nat → Nat} {w w' : World} {a hd n ax : Nat} {c : Cf} {p : Pt} {b : Bo} (h : WoIs own w a hd c n ax p b) (k : Below w.heap.size w w') : WoIs own w' a hd c n ax p b :=
  ⟨h.bo.below k, h.pt.fr (h.jb 0).ok.c.b2 (Fr.below k), (Fr.below (T := WTag) k).junk h.jk, h.cok, h.jb, h.bd, h.ids⟩

theorem WoIs.c13 {own : Nat → Nat} {w : World} {a hd n ax : Nat} {c : Cf} {p : Pt} {b : Bo} (h : WoIs own w a hd c n ax p b) : w.cell? ⟨a, 13, none⟩ = some (.pointer (some ⟨ax, 0, none⟩)) := by
  obtain ⟨vF, vH, g, hb⟩ := h.bo
  exact hb.cell 13 (by omega)

set_option maxRecDepth 100000 in
set_option maxHeartbeats 6400000 in
theorem passes_no (own : Nat → Nat) (a hd m : Nat) (c : Cf) (ax : Nat) (p : Pt) (b : Bo) (n : Int) (w : World) (h : WoIs own w a hd c m ax p b) (hn : n < 0 ∨ 4611686018427387904 < (p.now : Int) + n) :
    Calls Try.prog 18 #[.pointer (some ⟨a, 0, none⟩), .int .i64 n] w fun e w' => e = .returned (.tuple #[]) ∧ PaPost own w w' a hd m c ax p := by
  have hnow := (h.jb 0).ok.now
  have H : Bx _ := ⟨h⟩
  have c13 := h.c13
  have HN0 : Bx _ := ⟨pnow_any own 100 ax _ p w h.pt⟩
  have hnil := evs_nil
  have HC : Bx _ := ⟨hn⟩
  clear h hn
  go_enter Try.func18, Try.ntmps18
  go_wp2_with fail
  refine HN0.out.mono ?_
  rintro e w1 ⟨rfl, hb1⟩
  have H1 : Bx _ := ⟨H.out.below hb1⟩
  have HB1 : Bx _ := ⟨hb1⟩
  clear HN0 hb1 c13
  have c13 := H1.out.c13
  go_wp2_with fail
  refine (padvance_no own 100 ax _ p n w1 H1.out.pt HC.out hnow).mono ?_
  rintro e wz ⟨rfl, hz⟩
  subst hz
  go_wp2_with fail
  refine (pnow_any own 100 ax _ p wz H1.out.pt).mono ?_
  rintro e w3 ⟨rfl, hb3⟩
  have HZ : Bx (PaPost own w w3 a hd m c ax p) := ⟨⟨own, b, H1.out.below hb3, (Fr.below HB1.out).trans (Fr.below hb3)⟩⟩
  clear H1 H hb3 c13 HB1
  by_cases hneg : n < 0
  · go_wp2_with fail
    refine (is_yes a _ _).mono ?_
    rintro e wy ⟨rfl, hy⟩
    subst hy
    go_wp2_with fail
    refine bodyPost_ret (v := .tuple #[]) (by simp [results, Try.results18, go_sem]) rfl ⟨rfl, HZ.out⟩
  · have hbig : 4611686018427387904 < (p.now : Int) + n := HC.out.resolve_left hneg
    have i1 : (4611686018427387904 : Int) - p.now < n := by omega
    have i2 : decide (n < 0) = false := decide_eq_false hneg
    go_wp2_with fail
    refine (is_yes a _ _).mono ?_
    rintro e wy ⟨rfl, hy⟩
    subst hy
    go_wp2_with fail
    refine bodyPost_ret (v := .tuple #[]) (by simp [results, Try.results18, go_sem]) rfl ⟨rfl, HZ.out⟩

/-- All that is known of time that passes. -/
structure PaF (p : Pt) (b : Bo) (n : Nat) (p' : Pt) (l : List Ev) : Prop where
  on : b.on = p'.c
  ll : l.length ≤ 16777216
  ok : p'.ok
  now : p'.now = p.now + n
  ids : p'.ids = p.ids
  hE : ∀ hd, EvsOk hd p'.now b.clears l
  hB : ∀ i (h : i < l.length), EvB (b.clears.events (l.take i)) l[i]
  hS : ∀ hd, StOk hd p' (b.clears.events l)
  hT : StB (b.clears.events l)
  jb : ∀ hd, JB hd p' ((b.clears.events l).stands p'.busy)
  bd : BdB (200 * p'.done.length) ((b.clears.events l).stands p'.busy)

theorem JB.sizes {p : Pt} {b : Bo} (hJ : ∀ hd, JB hd p b) : (∀ i, i < p.c.buckets → b.size i ≤ 13000) ∧ b.here.length ≤ 64 := by
  have hok := (hJ 0).ok
  have f64 := (hJ 0).f64
  have jq := (hJ 0).j.jq
  refine ⟨fun i hi => ?_, ?_⟩
  · have e : b.size i = qBytes (p.bk i).q := jq.size i hi
    have h3 := qBytes_le _ (hok.by i)
    have h4 := hok.len i hi
    omega
  · have h3 := jq.cnt
    have h4 : b.here.filter (fun id => !(b.fr id).gone) = b.here := List.filter_eq_self.2 (fun id hid => by rw [(hJ 0).here id hid]; rfl)
    rw [h4] at h3
    have h5 : b.here.length = framesTo p.bk p.c.buckets := by rw [← framesQ_bk]; exact h3
    have h6 : framesTo p.bk p.c.buckets = p.frames := rfl
    omega

theorem paF_of {p : Pt} {b : Bo} (hJ : ∀ hd, JB hd p b) (hbd : BdB (200 * p.done.length) b) (hids : p.ids ≤ 16777216) (n : Nat) (hn : p.now + n ≤ 4611686018427387904) (p' : Pt) (hp : p.advance n = p') (l : List Ev) (hl : p'.done = p.done ++ l) : PaF p b n p' l := by
  have hok := (hJ 0).ok
  obtain ⟨o1, o3, o5, _, _⟩ := p.advance_ok hok n hn
  have o4 : (p.advance n).now = p.now + n := rfl
  rw [hp] at o1 o3 o4 o5
  have g2 : ∀ hd, Went hd (p.now + n) p b.clears p' l := by
    intro hd
    obtain ⟨l', W⟩ := (hJ hd).advance n hn
    rw [hp] at W
    have e : l' = l := by
      have h := W.done
      rw [hl] at h
      exact (List.append_cancel_left h).symm
    subst e
    exact W
  have jq := (hJ 0).j.jq
  have hon : b.on = p.c := jq.on
  have hlen : b.f.length = p.ids := jq.len
  obtain ⟨s2, he⟩ := JB.sizes hJ
  obtain ⟨b1, b2, b3⟩ := Went.bounds (N := p.now + n) g2 hbd.clears o1 (by omega) hn (by intro i hi; exact Nat.le_trans (s2 i (by have e : b.clears.on = p.c := hon; rw [e] at hi; exact hi)) (by omega))
    (by show b.here.length ≤ 1000; omega) (by show b.f.length ≤ 16777216; omega) (by show b.on.ok; rw [hon]; exact hok.c)
  have hdn := o1.dn
  have hdl : p'.done.length = p.done.length + l.length := by rw [hl, List.length_append]
  exact ⟨by rw [o3]; exact hon, by omega, o1, o4, o5, by rw [o4]; exact fun hd => (g2 hd).ok, b1, fun hd => (g2 hd).st, b2, fun hd => (g2 hd).jb, b3⟩

set_option maxRecDepth 100000 in
set_option maxHeartbeats 6400000 in
theorem passes_yes (own : Nat → Nat) (a hd m : Nat) (c : Cf) (ax : Nat) (p : Pt) (b : Bo) (n : Nat) (w : World) (h : WoIs own w a hd c m ax p b) (hm : m ≤ 16777216) (hn : p.now + n ≤ 4611686018427387904) (p' : Pt) (HP : Bx (p.advance n = p')) (hH : HonestIs) :
    Calls Try.prog 18 #[.pointer (some ⟨a, 0, none⟩), .int .i64 n] w fun e w' => e = .returned (.tuple #[]) ∧ PaPost own w w' a hd m c ax p' := by
  have hnow := (h.jb 0).ok.now
  have hids := h.ids
  have H : Bx _ := ⟨h⟩
  have HH : Bx _ := ⟨hH⟩
  have c13 := h.c13
  have HN0 : Bx _ := ⟨pnow_any own 100 ax _ p w h.pt⟩
  clear h hH
  go_enter Try.func18, Try.ntmps18
  go_wp2_with fail
  refine HN0.out.mono ?_
  rintro e w1 ⟨rfl, hb1⟩
  have H1 : Bx _ := ⟨H.out.below hb1⟩
  have HB1 : Bx _ := ⟨hb1⟩
  clear HN0 hb1 c13 H
  have c13 := H1.out.c13
  go_wp2_with fail
  refine (padvance_any own 100 50 ax p n w1 H1.out.pt ⟨by omega, by omega, by omega⟩ H1.out.jk (H1.out.jb 0).ok (by omega) hn p' HP).mono ?_
  rintro e w2 ⟨v', rfl, hpo⟩
  obtain ⟨own1, l, hd1, hA1, hS1, _, hF1⟩ := hpo.ex
  simp only [List.nil_append] at hS1
  have AF : Bx _ := ⟨paF_of H1.out.jb H1.out.bd (by omega) n hn p' HP.out l hd1⟩
  obtain ⟨vb, vc, hv⟩ : ∃ vb k, v' = .slice vb l.length k := by
    obtain ⟨_, h2⟩ := hS1
    rcases h2 with ⟨hv, hn⟩ | ⟨g, off, cap, hv, _⟩
    · exact ⟨none, 0, by rw [hv, hn]⟩
    · exact ⟨some ⟨g, off, none⟩, cap, hv⟩
  subst hv
  obtain ⟨vF, vH, g, hb1⟩ := H1.out.bo.fr hF1 (fun t ht => by show ¬ ((100 ≤ t ∧ t < 100 + 20) ∨ t = 1 ∨ t = 50); have := ht.1; have := ht.2; omega)
  have hb16 : p'.c.buckets ≤ 16 := AF.out.ok.c.b2
  have HW : Bx (ArW own w own1 w2 a hd c ax vF vH g b p' l (.slice vb l.length vc)) := ⟨hb1, hA1, hS1, hF1.junk H1.out.jk, (Fr.below HB1.out).trans (hF1.mono (fun t e => by show t ≠ 0; rcases e with e | e | e <;> omega))⟩
  have HC : Bx _ := ⟨H1.out.cok⟩
  clear hpo hd1 hA1 hS1 hF1 c13 hb1 HB1 H1
  have c13 : w2.cell? ⟨a, 13, none⟩ = some (.pointer (some ⟨ax, 0, none⟩)) := HW.out.bo.cell 13 (by omega)
  have HNW : Bx _ := ⟨pnow_any own1 100 ax _ p' w2 HW.out.pt⟩
  rw [AF.out.now] at HNW
  go_wp2_with fail
  refine HNW.out.mono ?_
  rintro e w3 ⟨rfl, hb3⟩
  have HW3 : Bx _ := ⟨HW.out.below hb16 hb3⟩
  clear HW hb3 HNW c13
  have i1 : ¬ (n : Int) < 0 := by omega
  have i2 : decide ((n : Int) < 0) = false := decide_eq_false i1
  have i3 : ¬ (4611686018427387904 : Int) - p.now < n := by omega
  have i4 : decide ((4611686018427387904 : Int) - p.now < n) = false := decide_eq_false i3
  go_wp2_with fail
  refine (needs_yes a _).mono ?_
  rintro e wz ⟨rfl, hz⟩
  subst hz
  go_wp2_with fail
  refine (happened_any own1 a hd c ax p' b l (.slice vb l.length vc) _ ⟨_, _, _, HW3.out.bo⟩ HW3.out.pt AF.out.ok AF.out.on HW3.out.sl AF.out.ll AF.out.hE AF.out.hB AF.out.hS AF.out.hT HH.out).mono ?_
  rintro e w9 ⟨rfl, own9, hb9, hf9⟩
  have HZ : Bx (PaPost own w w9 a hd m c ax p') := ⟨⟨own9, _, ⟨hb9, HW3.out.pt.fr hb16 hf9, hf9.junk HW3.out.jk, HC.out, AF.out.jb, AF.out.bd, by rw [AF.out.ids]; omega⟩, HW3.out.fr.trans (hf9.mono (fun t ht => by show t ≠ 0; have := ht.1; omega))⟩⟩
  clear hb9 hf9 HW3
  go_wp2_with fail
  go_end0
  exact ⟨rfl, HZ.out⟩

end Go.Proofs.Ytnkicbopebgppab

/-! The port comes to rest. -/
namespace Go.Proofs.Ytnkicbopebgppab
open Go.RowKit Fl

theorem PaPost.post {own : Nat → Nat} {w w' : World} {a hd m ax : Nat} {c : Cf} {p : Pt} (h : PaPost own w w' a hd m c ax p) {m' : Nat} (hm : m ≤ m') : WoPost own w w' a hd m' c := by
  obtain ⟨own', b, h1, h2⟩ := h.ex
  exact ⟨own', ⟨ax, p, b, h1.later hm⟩, h2⟩

theorem WoPost.before {own : Nat → Nat} {w w1 w' : World} {a hd m : Nat} {c : Cf} (k : Below w.heap.size w w1) (h : WoPost own w1 w' a hd m c) : WoPost own w w' a hd m c := by
  obtain ⟨own', h1, h2⟩ := h.ex
  exact ⟨own', h1, (Fr.below k).trans h2⟩

/-- Time passes, whatever the number. -/
theorem passes_any (own : Nat → Nat) (a hd m : Nat) (c : Cf) (n : Int) (w : World) (h : WoAt own w a hd m c) (hm : m ≤ 16777216) (hH : HonestIs) :
    Calls Try.prog 18 #[.pointer (some ⟨a, 0, none⟩), .int .i64 n] w fun e w' => e = .returned (.tuple #[]) ∧ WoPost own w w' a hd (m + 1) c := by
  obtain ⟨ax, p, b, h⟩ := h
  by_cases hn : n < 0 ∨ 4611686018427387904 < (p.now : Int) + n
  · refine (passes_no own a hd m c ax p b n w h hn).mono ?_
    rintro e w' ⟨rfl, hp⟩
    exact ⟨rfl, hp.post (by omega)⟩
  · obtain ⟨k, rfl⟩ : ∃ k : Nat, n = k := ⟨n.toNat, by omega⟩
    refine (passes_yes own a hd m c ax p b k w h hm (by omega) _ ⟨rfl⟩ hH).mono ?_
    rintro e w' ⟨rfl, hp⟩
    exact ⟨rfl, hp.post (by omega)⟩

set_option maxRecDepth 100000 in
set_option maxHeartbeats 6400000 in
theorem rests_any (own : Nat → Nat) (a hd m : Nat) (c : Cf) (w : World) (h : WoAt own w a hd m c) (hm : m ≤ 16777216) (hH : HonestIs) :
    Calls Try.prog 23 #[.pointer (some ⟨a, 0, none⟩)] w fun e w' => e = .returned (.tuple #[]) ∧ WoPost own w w' a hd (m + 1) c := by
  obtain ⟨ax, p, b, h⟩ := h
  have hok := (h.jb 0).ok
  have hnow := hok.now
  obtain ⟨_, he⟩ := JB.sizes h.jb
  have hon : b.on = p.c := (h.jb 0).j.jq.on
  have hl2 := hok.c.l2
  have hu2 := hok.c.u2
  have htill : b.till ≤ p.now + 209715200 := by
    cases hb : p.busy with
    | true =>
      have h1 := ((h.jb 0).j.jt.busy hb).1
      have h2 := (hok.up hb).2
      have h1' : b.till = p.upto := h1
      omega
    | false =>
      have h1 : b.till ≤ p.now := (h.jb 0).j.jt.idle hb
      omega
  obtain ⟨X1, HX1, v1, v2⟩ : ∃ X1 : Nat, Bx (b.here.length * p.c.length = X1) ∧ X1 ≤ 64 * 200 ∧ (b.here.length : Int) * (p.c.length : Nat) = X1 := ⟨_, ⟨rfl⟩, Nat.mul_le_mul he hl2, by simp⟩
  obtain ⟨X2, HX2, v3, v4⟩ : ∃ X2 : Nat, Bx (X1 * p.c.tau = X2) ∧ X2 ≤ 12800 * 1048576 ∧ (X1 : Int) * (p.c.tau : Nat) = X2 := ⟨_, ⟨rfl⟩, Nat.mul_le_mul v1 hu2, by simp⟩
  have HR : Bx (∀ n, p.now + n ≤ 4611686018427387904 → X2 + 1 + (if p.now < b.till then b.till - p.now else 0) ≤ n → (p.advance n).frames = 0) := ⟨fun n h1 h2 => (h.jb 0).rests n h1 (by rw [HX1.out, HX2.out]; exact h2)⟩
  have H : Bx _ := ⟨h⟩
  have HH : Bx _ := ⟨hH⟩
  have HON : Bx _ := ⟨hon⟩
  have c13 := h.c13
  have HN0 : Bx _ := ⟨pnow_any own 100 ax _ p w h.pt⟩
  clear h hH hon hok
  go_enter Try.func23, Try.ntmps23
  go_wp2_with fail
  refine HN0.out.mono ?_
  rintro e w1 ⟨rfl, hb1⟩
  have H1 : Bx _ := ⟨H.out.below hb1⟩
  have HB1 : Bx _ := ⟨hb1⟩
  clear HN0 hb1 c13 H
  obtain ⟨vF, vH, g, hB⟩ := H1.out.bo
  obtain ⟨hb, hc, hvH⟩ : ∃ vb k, vH = .slice vb b.here.length k := by
    obtain ⟨_, h2⟩ := hB.here
    rcases h2 with ⟨hv, hn⟩ | ⟨g, off, cap, hv, _⟩
    · exact ⟨none, 0, by rw [hv, hn]⟩
    · exact ⟨some ⟨g, off, none⟩, cap, hv⟩
  subst hvH
  have c25 : w1.cell? ⟨a, 25, none⟩ = some (.slice hb b.here.length hc) := hB.cell 25 (by omega)
  have c18 : w1.cell? ⟨a, 18, none⟩ = some (.int .i64 b.on.length) := hB.cell 18 (by omega)
  have c21 : w1.cell? ⟨a, 21, none⟩ = some (.int .i64 b.on.tau) := hB.cell 21 (by omega)
  have c26 : w1.cell? ⟨a, 26, none⟩ = some (.int .i64 b.till) := hB.cell 26 (by omega)
  rw [HON.out] at c18 c21
  clear hB
  go_wp2_with fail
  go_quiet (fail)
  have H2 : Bx (WoIs own (w1.drewN nq) a hd c m ax p b) := ⟨H1.out.below ((Below.refl _ _).drewN nq)⟩
  have HB2 : Bx (Below w.heap.size w (w1.drewN nq)) := ⟨HB1.out.drewN nq⟩
  have Y : ∀ (q : Addr), (w1.drewN nq).cell? q = w1.cell? q := fun _ => rfl
  rw [← Y] at c25 c18 c21 c26
  clear H1 HB1 Y
  generalize w1.drewN nq = w2 at *
  obtain ⟨N, HNR, hN1, hN2⟩ : ∃ N : Nat, Bx (p.now + N ≤ 4611686018427387904 → (p.advance N).frames = 0) ∧ (¬ p.now < b.till → N = X2 + 1) ∧ (p.now < b.till → N = X2 + 1 + b.till - p.now) := by
    refine ⟨X2 + 1 + (if p.now < b.till then b.till - p.now else 0), ⟨fun h1 => HR.out _ h1 (Nat.le_refl _)⟩, fun e => by rw [if_neg e], fun e => by rw [if_pos e]; omega⟩
  clear HR
  have HZ0 : Bx (WoPost own w w2 a hd (m + 1) c) := ⟨WoPost.before HB2.out (WoAt.post ⟨ax, p, b, H2.out⟩ (by omega))⟩
  by_cases hbig : (4611686018427387904 : Int) - p.now < N
  · by_cases ht : p.now < b.till
    · have i1 : (p.now : Int) < b.till := by omega
      have i2 : (X2 : Int) + 1 + b.till - p.now = N := by have := hN2 ht; omega
      have hNb : N ≤ 40000000000 := by have := hN2 ht; omega
      clear hN1 hN2
      go_wp2_with fail
      refine bodyPost_ret (v := .tuple #[]) (by simp [results, Try.results23, go_sem]) rfl ⟨rfl, HZ0.out⟩
    · have i1 : ¬ (p.now : Int) < b.till := by omega
      have i1b : decide ((p.now : Int) < b.till) = false := decide_eq_false i1
      have i2 : (X2 : Int) + 1 = N := by have := hN1 ht; omega
      have hNb : N ≤ 40000000000 := by have := hN1 ht; omega
      clear hN1 hN2
      go_wp2_with fail
      refine bodyPost_ret (v := .tuple #[]) (by simp [results, Try.results23, go_sem]) rfl ⟨rfl, HZ0.out⟩
  · have hbigb : decide ((4611686018427387904 : Int) - p.now < N) = false := decide_eq_false hbig
    clear HZ0
    by_cases ht : p.now < b.till
    case' pos =>
      have i1 : (p.now : Int) < b.till := by omega
      have i2 : (X2 : Int) + 1 + b.till - p.now = N := by have := hN2 ht; omega
      have hNb : N ≤ 40000000000 := by have := hN2 ht; omega
      clear hN1 hN2
    case' neg =>
      have i1 : ¬ (p.now : Int) < b.till := by omega
      have i1b : decide ((p.now : Int) < b.till) = false := decide_eq_false i1
      have i2 : (X2 : Int) + 1 = N := by have := hN1 ht; omega
      have hNb : N ≤ 40000000000 := by have := hN1 ht; omega
      clear hN1 hN2
    all_goals
      obtain ⟨p', HP⟩ : ∃ p', Bx (p.advance N = p') := ⟨_, ⟨rfl⟩⟩
      have hn : p.now + N ≤ 4611686018427387904 := by omega
      have HF0 : Bx (p'.frames = 0) := ⟨by rw [← HP.out]; exact HNR.out hn⟩
      go_wp2_with fail
      refine (passes_yes own a hd m c ax p b N w2 H2.out hm hn p' HP HH.out).mono ?_
      rintro e w3 ⟨rfl, hpo⟩
      obtain ⟨own3, b3, h3, hf3⟩ := hpo.ex
      have H3 : Bx _ := ⟨h3⟩
      have HZ : Bx (WoPost own w w3 a hd (m + 1) c) := ⟨WoPost.before HB2.out (hpo.post (by omega))⟩
      clear hpo h3 hf3 H2 c25 c18 c21 c26 HB2 i1 i2
      have c13 := H3.out.c13
      have c2 : w3.cell? ⟨a, 2, none⟩ = some (.bool false) := by
        obtain ⟨vF, vH, g, h⟩ := H3.out.bo
        exact h.cell 2 (by omega)
      have hok3 := (H3.out.jb 0).ok
      have HHE : Bx _ := ⟨pheld_any own3 100 ax _ p' w3 H3.out.pt hok3.c.b2 (Nat.le_trans hok3.fr (by omega)) (fun i _ => hok3.by i)⟩
      rw [HF0.out] at HHE
      clear hok3
      go_wp2_with fail
      refine HHE.out.mono ?_
      rintro e wz ⟨rfl, hz⟩
      subst hz
      go_wp2_with fail
      refine (is_yes a _ _).mono ?_
      rintro e wy ⟨rfl, hy⟩
      subst hy
      go_wp2_with fail
      go_end0
      exact ⟨rfl, HZ.out⟩

end Go.Proofs.Ytnkicbopebgppab

/-! Rows anew. -/
namespace Go.Proofs.Ytnkicbopebgppab
open Go.RowKit Fl

theorem infoBool : (Try.prog.info? 4).map (fun i => (i.zero, i.size, i.bytes)) = some (some (.bool false), 1, 1) := by kernel_rfl
theorem infoPair : (Try.prog.info? 84).map (fun i => (i.zero, i.size, i.bytes)) = some (some (.agg #[.bool false, .int .i64 0, .int .i64 0]), 3, 24) := by kernel_rfl

theorem make_boolsB (n : Nat) (hn : n ≤ 1000) (w : World) : (Instr.makeSlice 35 (.int .i64 (n : Int)) (.int .i64 (n : Int))).run Try.prog w = .ok (.slice (some ⟨w.heap.size, 0, none⟩) n n) (w.alloc (Obj.cells (madeCells #[.bool false] n) 4)) := by
  obtain ⟨i0, hi, hz0, hz1, hz2⟩ := info_parts infoBool
  have h := run_make (P := Try.prog) w 35 4 i0 (.bool false) Try.underlying35 hi hz0 .i64 .i64 (n : Int) (n : Int) (by omega) (Int.le_refl _) (by rw [hz2]; omega) (by omega)
  have e : ((n : Int)).toNat = n := by omega
  rw [e] at h
  simpa [hz1, Value.cells] using h

theorem made_boolsB (n : Nat) (w : World) : (w.alloc (Obj.cells (madeCells #[.bool false] n) 4)).rowIs w.heap.size 4 n (fun _ => .bool false) := by
  have h := World.rowIs_alloc w (madeCells #[.bool false] n) 4 (fun _ => .bool false) (fun i hi => by
    rw [size_madeCells] at hi
    have hi' : i < n := by simpa using hi
    simp only [madeCells, Array.getElem?_map, Array.getElem?_range]
    simp [hi', Nat.mod_one])
  rw [size_madeCells] at h
  simpa using h

theorem make_pairs (n : Nat) (hn : n ≤ 1000) (w : World) : (Instr.makeSlice 36 (.int .i64 (n : Int)) (.int .i64 (n : Int))).run Try.prog w = .ok (.slice (some ⟨w.heap.size, 0, none⟩) n n) (w.alloc (Obj.cells (madeCells #[.bool false, .int .i64 0, .int .i64 0] (n * 3)) 84)) := by
  obtain ⟨i0, hi, hz0, hz1, hz2⟩ := info_parts infoPair
  have h := run_makeSlice (P := Try.prog) (w := w) 36 84 i0 _ Try.underlying36 hi hz0 .i64 .i64 (n : Int) (n : Int) (by omega) (by omega) (by rw [hz1]; simp; omega) (by rw [hz2]; omega) (by omega)
  rw [hz1] at h
  simpa [Value.cells] using h

theorem made_pairs (n : Nat) (w : World) : (w.alloc (Obj.cells (madeCells #[.bool false, .int .i64 0, .int .i64 0] (n * 3)) 84)).rowIs w.heap.size 84 (n * 3) (prF (fun _ => ⟨false, 0, 0⟩)) := by
  have h := World.rowIs_alloc w (madeCells #[.bool false, .int .i64 0, .int .i64 0] (n * 3)) 84 (prF (fun _ => ⟨false, 0, 0⟩)) (fun i hi => by
    rw [size_madeCells] at hi
    have hm : i % 3 < 3 := Nat.mod_lt _ (by omega)
    simp only [madeCells, Array.getElem?_map, Array.getElem?_range, hi, if_true, Option.map_some]
    unfold prF
    show some (#[Value.bool false, Value.int .i64 0, Value.int .i64 0][i % 3]!) = some (if i % 3 = 0 then Value.bool false else if i % 3 = 1 then Value.int .i64 0 else Value.int .i64 0)
    match i % 3, hm with
    | 0, _ => rfl
    | 1, _ => rfl
    | 2, _ => rfl)
  rw [size_madeCells] at h
  exact h

/-- A row is made and its place is stored. -/
theorem an_make {o1 : Nat → Nat} {w1 : World} {a : Nat} {f : Nat → Value} (h : Row o1 w1 2 a 38 37 f) (O : Obj) (ty n : Nat) (z : Nat → Value) (hr : ∀ W : World, (W.alloc O).rowIs W.heap.size ty n z) (t i : Nat) (v : Value) :
    Row (upd o1 w1.heap.size t) ((w1.setCell ⟨a, i, none⟩ v).alloc O) 2 a 38 37 (fun j => if j = i then v else f j) ∧ Row (upd o1 w1.heap.size t) ((w1.setCell ⟨a, i, none⟩ v).alloc O) t w1.heap.size ty n z ∧ Fr (fun t => t = 2) o1 (upd o1 w1.heap.size t) w1 ((w1.setCell ⟨a, i, none⟩ v).alloc O) := by
  have hs : (w1.setCell ⟨a, i, none⟩ v).heap.size = w1.heap.size := by simp [World.setCell]
  have k1 : Fr (fun t => t = 2) o1 o1 w1 (w1.setCell ⟨a, i, none⟩ v) := (Fr.refl _ _ _).setCell a _ _ h.tag
  have hA := Fr.allocTag (fun _ => False) o1 (w1.setCell ⟨a, i, none⟩ v) O t
  have hr1 := hr (w1.setCell ⟨a, i, none⟩ v)
  rw [hs] at hA hr1
  exact ⟨(h.set i v).fr hA id, ⟨upd_same _ _ _, hr1⟩, k1.trans (hA.mono (fun _ e => e.elim))⟩

def anTy : Nat → Nat
  | 3 => 4
  | 6 => 4
  | 7 => 84
  | _ => 3
def anN (n : Nat) : Nat → Nat
  | 7 => n * n * 3
  | _ => n
def anL (n : Nat) : Nat → Nat
  | 7 => n * n
  | _ => n
def anZ : Nat → Nat → Value
  | 0, _ => .int .i64 (-1)
  | 3, _ => .bool false
  | 6, _ => .bool false
  | 7, j => prF (fun _ => ⟨false, 0, 0⟩) j
  | _, _ => .int .i64 0

/-- The first k rows are new. -/
structure AnS (own : Nat → Nat) (w : World) (o1 : Nat → Nat) (w1 : World) (a n : Nat) (f0 f : Nat → Value) (g : Nat → Nat) (k : Nat) : Prop where
  row : Row o1 w1 2 a 38 37 f
  old : ∀ i, i < 29 → f i = f0 i
  rows : ∀ i, i < k → Row o1 w1 (12 + i) (g i) (anTy i) (anN n i) (anZ i)
  cells : ∀ i, i < k → f (29 + i) = .slice (some ⟨g i, 0, none⟩) (anL n i) (anL n i)
  fr : Fr (fun t => t = 2) own o1 w w1

theorem AnS.step {own : Nat → Nat} {w : World} {o1 : Nat → Nat} {w1 : World} {a n : Nat} {f0 f : Nat → Value} {g : Nat → Nat} {k : Nat} (h : AnS own w o1 w1 a n f0 f g k) (O : Obj) (hr : ∀ W : World, (W.alloc O).rowIs W.heap.size (anTy k) (anN n k) (anZ k)) :
    AnS own w (upd o1 w1.heap.size (12 + k)) ((w1.setCell ⟨a, 29 + k, none⟩ (.slice (some ⟨w1.heap.size, 0, none⟩) (anL n k) (anL n k))).alloc O) a n f0 (fun j => if j = 29 + k then .slice (some ⟨w1.heap.size, 0, none⟩) (anL n k) (anL n k) else f j) (fun i => if i = k then w1.heap.size else g i) (k + 1) := by
  obtain ⟨r1, r2, k1⟩ := an_make h.row O (anTy k) (anN n k) (anZ k) hr (12 + k) (29 + k) (.slice (some ⟨w1.heap.size, 0, none⟩) (anL n k) (anL n k))
  refine ⟨r1, fun i hi => ?_, fun i hi => ?_, fun i hi => ?_, h.fr.trans k1⟩
  · show (if i = 29 + k then _ else f i) = f0 i
    rw [if_neg (by omega)]
    exact h.old i hi
  · by_cases e : i = k
    · subst e
      show Row _ _ _ (if i = i then _ else _) _ _ _
      rw [if_pos rfl]
      exact r2
    · show Row _ _ _ (if i = k then _ else _) _ _ _
      rw [if_neg e]
      exact (h.rows i (by omega)).fr k1 (show ¬ 12 + i = 2 by omega)
  · by_cases e : i = k
    · subst e
      show (if 29 + i = 29 + i then _ else _) = Value.slice (some ⟨(if i = i then _ else _), 0, none⟩) _ _
      rw [if_pos rfl, if_pos rfl]
    · show (if 29 + i = 29 + k then _ else f (29 + i)) = Value.slice (some ⟨(if i = k then _ else _), 0, none⟩) _ _
      rw [if_neg (by omega), if_neg e]
      exact h.cells i (by omega)

/-- All rows are new: the book is a new one. -/
theorem AnS.book {own : Nat → Nat} {w : World} {o1 : Nat → Nat} {w1 : World} {a hd : Nat} {c : Cf} {ax : Nat} {vF vH : Value} {g0 g : Nat → Nat} {b : Bo} {f : Nat → Value} (h : AnS own w o1 w1 a b.on.buckets (woF hd c ax vF vH g0 b) f g 8) (hf : Sl anyC own w 10 6 vF b.f.length (fqCells b.f)) (t8 : Nat) (ht : t8 = 9 ∨ t8 = 11) (hh : Sl anyC own w t8 1 vH b.here.length (natCells b.here)) :
    BoAt o1 w1 a hd c ax (b.news b.on) ∧ Fr BTag own o1 w w1 := by
  refine ⟨⟨vF, vH, fun i => if i = 8 then t8 else g i, ⟨h.row.congr (fun i hi => ?_), hf.fr h.fr (show ¬ 10 = 2 by omega), hh.fr h.fr (show ¬ t8 = 2 by omega), h.rows 0 (by omega), h.rows 1 (by omega), h.rows 2 (by omega), h.rows 3 (by omega), h.rows 4 (by omega), h.rows 5 (by omega), h.rows 6 (by omega), h.rows 7 (by omega), ht⟩⟩, h.fr.mono (fun t e => by rw [e]; exact ⟨by omega, by omega⟩)⟩
  have c0 := h.cells 0 (by omega); have c1 := h.cells 1 (by omega); have c2 := h.cells 2 (by omega); have c3 := h.cells 3 (by omega); have c4 := h.cells 4 (by omega); have c5 := h.cells 5 (by omega); have c6 := h.cells 6 (by omega); have c7 := h.cells 7 (by omega)
  have o := h.old
  revert i
  exact all37 (o 0 (by omega)) (o 1 (by omega)) (o 2 (by omega)) (o 3 (by omega)) (o 4 (by omega)) (o 5 (by omega)) (o 6 (by omega)) (o 7 (by omega)) (o 8 (by omega)) (o 9 (by omega)) (o 10 (by omega)) (o 11 (by omega)) (o 12 (by omega)) (o 13 (by omega)) (o 14 (by omega)) (o 15 (by omega)) (o 16 (by omega)) (o 17 (by omega)) (o 18 (by omega)) (o 19 (by omega)) (o 20 (by omega)) (o 21 (by omega)) (o 22 (by omega)) (o 23 (by omega)) (o 24 (by omega)) (o 25 (by omega)) (o 26 (by omega)) (o 27 (by omega)) (o 28 (by omega)) c0 c1 c2 c3 c4 c5 c6 c7

end Go.Proofs.Ytnkicbopebgppab

/-! Nothing is known of any bucket. -/
namespace Go.Proofs.Ytnkicbopebgppab
open Go.RowKit Fl

set_option maxRecDepth 100000 in
set_option maxHeartbeats 6400000 in
theorem anew_any (own : Nat → Nat) (a hd : Nat) (c : Cf) (ax : Nat) (vF vH : Value) (g : Nat → Nat) (b : Bo) (f : Nat → Value) (w : World) (h : Row own w 2 a 38 37 f) (hold : ∀ i, i < 29 → f i = woF hd c ax vF vH g b i) (hf : Sl anyC own w 10 6 vF b.f.length (fqCells b.f)) (t8 : Nat) (ht : t8 = 9 ∨ t8 = 11) (hh : Sl anyC own w t8 1 vH b.here.length (natCells b.here)) (hn : b.on.buckets ≤ 16) :
    Calls Try.prog 14 #[.pointer (some ⟨a, 0, none⟩)] w fun e w' => e = .returned (.tuple #[]) ∧ ∃ own', BoAt own' w' a hd c ax (b.news b.on) ∧ Fr BTag own own' w w' := by
  have c14 : w.cell? ⟨a, 14, none⟩ = some (.int .i64 b.on.buckets) := by rw [h.row.cell (i := 14) (by omega), hold 14 (by omega)]; rfl
  have c29 : w.cell? ⟨a, 29, none⟩ = some (f 29) := h.row.cell (by omega)
  have hz := h.row.frozen
  have hlt := h.row.lt
  have hne1 : ¬ a = w.heap.size := by omega
  have hne2 : ¬ w.heap.size = a := by omega
  have hm := make_intsB b.on.buckets (by omega)
  have hmb := make_boolsB b.on.buckets (by omega)
  obtain ⟨NN, HNN, hNN, hnn⟩ : ∃ NN : Nat, Bx (b.on.buckets * b.on.buckets = NN) ∧ NN ≤ 256 ∧ (b.on.buckets : Int) * (b.on.buckets : Nat) = NN := ⟨_, ⟨rfl⟩, Nat.mul_le_mul hn hn, by simp⟩
  have hmp := make_pairs NN (by omega)
  have H : Bx _ := ⟨h⟩
  have HO : Bx _ := ⟨hold⟩
  have HF : Bx _ := ⟨hf⟩
  have HH : Bx _ := ⟨hh⟩
  have HT : Bx _ := ⟨ht⟩
  have HMK : Bx _ := ⟨an_make h (Obj.cells (madeCells #[.int .i64 0] b.on.buckets) 3) 3 b.on.buckets (fun _ => .int .i64 0) (made_intsB b.on.buckets) 12 29 (.slice (some ⟨w.heap.size, 0, none⟩) b.on.buckets b.on.buckets)⟩
  clear h hold hf hh ht
  go_enter Try.func14, Try.ntmps14
  go_upto_region 2 with fail
  clear c14 c29 hz hne1 hne2
  obtain ⟨g0, Hg0⟩ : ∃ g0, Bx (w.heap.size = g0) := ⟨_, ⟨rfl⟩⟩
  rw [Hg0.out] at HMK ⊢
  generalize (w.setCell ⟨a, 29, none⟩ (.slice (some ⟨g0, 0, none⟩) b.on.buckets b.on.buckets)).alloc (Obj.cells (madeCells #[.int .i64 0] b.on.buckets) 3) = w1 at *
  generalize upd own g0 12 = o1 at *
  go_wp2_with fail
  go_loopg [3] b.on.buckets (fun r v3 wr => ∃ i : Nat, v3 = .int .i64 i ∧ i + r = b.on.buckets ∧ Row o1 wr 2 a 38 37 (fun j => if j = 29 then .slice (some ⟨g0, 0, none⟩) b.on.buckets b.on.buckets else f j) ∧ Row o1 wr 12 g0 3 b.on.buckets (fun j => if j < i then .int .i64 (-1) else .int .i64 0) ∧ Fr (fun t => t = 2) own o1 w wr)
  case atStart => exact ⟨0, rfl, by omega, HMK.out.1, HMK.out.2.1.congr (fun j _ => by rw [if_neg (by omega)]), HMK.out.2.2⟩
  case round =>
    clear HMK
    obtain ⟨i, rfl, hi, hr, hl, hfr⟩ := hrel
    by_cases hil : i < b.on.buckets
    · obtain ⟨r', rfl⟩ : ∃ r', gk = r' + 1 := ⟨gk - 1, by omega⟩
      have i1 : (i : Int) < b.on.buckets := by omega
      have c29 : wr.cell? ⟨a, 29, none⟩ = some (.slice (some ⟨g0, 0, none⟩) b.on.buckets b.on.buckets) := hr.row.cell (i := 29) (by omega)
      have e0 : wr.cell? ⟨g0, i, none⟩ = some (if i < i then .int .i64 (-1) else .int .i64 0) := hl.row.cell hil
      rw [if_neg (by omega)] at e0
      have z0 := hl.row.frozen
      have k2 : Fr (fun t => t = 12) o1 o1 wr (wr.setCell ⟨g0, i, none⟩ (.int .i64 (-1))) := (Fr.refl _ o1 wr).setCell g0 _ _ hl.tag
      have HN : Bx (Row o1 (wr.setCell ⟨g0, i, none⟩ (.int .i64 (-1))) 2 a 38 37 (fun j => if j = 29 then .slice (some ⟨g0, 0, none⟩) b.on.buckets b.on.buckets else f j) ∧ Row o1 (wr.setCell ⟨g0, i, none⟩ (.int .i64 (-1))) 12 g0 3 b.on.buckets (fun j => if j < i + 1 then .int .i64 (-1) else .int .i64 0) ∧ Fr (fun t => t = 2) own o1 w (wr.setCell ⟨g0, i, none⟩ (.int .i64 (-1)))) := ⟨hr.fr k2 (show ¬ 2 = 12 by omega), (hl.set i (.int .i64 (-1))).congr (fun j _ => by
        show (if j = i then Value.int .i64 (-1) else if j < i then .int .i64 (-1) else .int .i64 0) = _
        by_cases e : j = i
        · rw [if_pos e, if_pos (by omega)]
        · rw [if_neg e]
          by_cases e2 : j < i
          · rw [if_pos e2, if_pos (by omega)]
          · rw [if_neg e2, if_neg (by omega)]), hfr.setNew g0 i _ (by rw [Hg0.out]; exact Nat.le_refl _)⟩
      clear hr hl hfr k2
      go_wp2_with fail
      go_roundg r'
      case rel => exact ⟨i + 1, by go_num, by omega, HN.out.1, HN.out.2.1, HN.out.2.2⟩
      case measure => omega
    · have i1 : ¬ (i : Int) < b.on.buckets := by omega
      have hS : AnS own w o1 wr a b.on.buckets (woF hd c ax vF vH g b) (fun j => if j = 29 then .slice (some ⟨g0, 0, none⟩) b.on.buckets b.on.buckets else f j) (fun _ => g0) 1 := ⟨hr, fun j hj => by rw [if_neg (by omega)]; exact HO.out j hj, fun j hj => by
        have e : j = 0 := by omega
        subst e
        exact hl.congr (fun x hx => by rw [if_pos (by omega)]; rfl), fun j hj => by
        have e : j = 0 := by omega
        subst e
        rfl, hfr⟩
      obtain ⟨f1, g1, HS1⟩ : ∃ f1 g1, Bx (AnS own w o1 wr a b.on.buckets (woF hd c ax vF vH g b) f1 g1 1) := ⟨_, _, ⟨hS⟩⟩
      clear hr hl hfr hS
      have c30 : wr.cell? ⟨a, 30, none⟩ = some (f1 30) := HS1.out.row.row.cell (by omega)
      have hz1 := HS1.out.row.row.frozen
      have hlt1 := HS1.out.row.row.lt
      have ha1 : ¬ a = wr.heap.size := by omega
      have hb1 : ¬ wr.heap.size = a := by omega
      go_upto_region 7 with fail
      clear c30 hz1 hlt1 ha1 hb1
      have hS := HS1.out.step (Obj.cells (madeCells #[.int .i64 0] b.on.buckets) 3) (made_intsB b.on.buckets)
      obtain ⟨o2, f2, g2, HS2⟩ : ∃ o f2 g2, Bx (AnS own w o ((wr.setCell ⟨a, 30, none⟩ (.slice (some ⟨wr.heap.size, 0, none⟩) b.on.buckets b.on.buckets)).alloc (Obj.cells (madeCells #[.int .i64 0] b.on.buckets) 3)) a b.on.buckets (woF hd c ax vF vH g b) f2 g2 2) := ⟨_, _, _, ⟨hS⟩⟩
      clear hS HS1
      generalize (wr.setCell ⟨a, 30, none⟩ (.slice (some ⟨wr.heap.size, 0, none⟩) b.on.buckets b.on.buckets)).alloc (Obj.cells (madeCells #[.int .i64 0] b.on.buckets) 3) = w2 at *
      have c31 : w2.cell? ⟨a, 31, none⟩ = some (f2 31) := HS2.out.row.row.cell (by omega)
      have hz2 := HS2.out.row.row.frozen
      have hlt2 := HS2.out.row.row.lt
      have ha2 : ¬ a = w2.heap.size := by omega
      have hb2 : ¬ w2.heap.size = a := by omega
      go_upto_region 8 with fail
      clear c31 hz2 hlt2 ha2 hb2
      have hS := HS2.out.step (Obj.cells (madeCells #[.int .i64 0] b.on.buckets) 3) (made_intsB b.on.buckets)
      obtain ⟨o3, f3, g3, HS3⟩ : ∃ o f2 g2, Bx (AnS own w o ((w2.setCell ⟨a, 31, none⟩ (.slice (some ⟨w2.heap.size, 0, none⟩) b.on.buckets b.on.buckets)).alloc (Obj.cells (madeCells #[.int .i64 0] b.on.buckets) 3)) a b.on.buckets (woF hd c ax vF vH g b) f2 g2 3) := ⟨_, _, _, ⟨hS⟩⟩
      clear hS HS2
      generalize (w2.setCell ⟨a, 31, none⟩ (.slice (some ⟨w2.heap.size, 0, none⟩) b.on.buckets b.on.buckets)).alloc (Obj.cells (madeCells #[.int .i64 0] b.on.buckets) 3) = w3 at *
      have c32 : w3.cell? ⟨a, 32, none⟩ = some (f3 32) := HS3.out.row.row.cell (by omega)
      have hz3 := HS3.out.row.row.frozen
      have hlt3 := HS3.out.row.row.lt
      have ha3 : ¬ a = w3.heap.size := by omega
      have hb3 : ¬ w3.heap.size = a := by omega
      go_upto_region 9 with fail
      clear c32 hz3 hlt3 ha3 hb3
      have hS := HS3.out.step (Obj.cells (madeCells #[.bool false] b.on.buckets) 4) (made_boolsB b.on.buckets)
      obtain ⟨o4, f4, g4, HS4⟩ : ∃ o f2 g2, Bx (AnS own w o ((w3.setCell ⟨a, 32, none⟩ (.slice (some ⟨w3.heap.size, 0, none⟩) b.on.buckets b.on.buckets)).alloc (Obj.cells (madeCells #[.bool false] b.on.buckets) 4)) a b.on.buckets (woF hd c ax vF vH g b) f2 g2 4) := ⟨_, _, _, ⟨hS⟩⟩
      clear hS HS3
      generalize (w3.setCell ⟨a, 32, none⟩ (.slice (some ⟨w3.heap.size, 0, none⟩) b.on.buckets b.on.buckets)).alloc (Obj.cells (madeCells #[.bool false] b.on.buckets) 4) = w4 at *
      have c33 : w4.cell? ⟨a, 33, none⟩ = some (f4 33) := HS4.out.row.row.cell (by omega)
      have hz4 := HS4.out.row.row.frozen
      have hlt4 := HS4.out.row.row.lt
      have ha4 : ¬ a = w4.heap.size := by omega
      have hb4 : ¬ w4.heap.size = a := by omega
      go_upto_region 10 with fail
      clear c33 hz4 hlt4 ha4 hb4
      have hS := HS4.out.step (Obj.cells (madeCells #[.int .i64 0] b.on.buckets) 3) (made_intsB b.on.buckets)
      obtain ⟨o5, f5, g5, HS5⟩ : ∃ o f2 g2, Bx (AnS own w o ((w4.setCell ⟨a, 33, none⟩ (.slice (some ⟨w4.heap.size, 0, none⟩) b.on.buckets b.on.buckets)).alloc (Obj.cells (madeCells #[.int .i64 0] b.on.buckets) 3)) a b.on.buckets (woF hd c ax vF vH g b) f2 g2 5) := ⟨_, _, _, ⟨hS⟩⟩
      clear hS HS4
      generalize (w4.setCell ⟨a, 33, none⟩ (.slice (some ⟨w4.heap.size, 0, none⟩) b.on.buckets b.on.buckets)).alloc (Obj.cells (madeCells #[.int .i64 0] b.on.buckets) 3) = w5 at *
      have c34 : w5.cell? ⟨a, 34, none⟩ = some (f5 34) := HS5.out.row.row.cell (by omega)
      have hz5 := HS5.out.row.row.frozen
      have hlt5 := HS5.out.row.row.lt
      have ha5 : ¬ a = w5.heap.size := by omega
      have hb5 : ¬ w5.heap.size = a := by omega
      go_upto_region 11 with fail
      clear c34 hz5 hlt5 ha5 hb5
      have hS := HS5.out.step (Obj.cells (madeCells #[.int .i64 0] b.on.buckets) 3) (made_intsB b.on.buckets)
      obtain ⟨o6, f6, g6, HS6⟩ : ∃ o f2 g2, Bx (AnS own w o ((w5.setCell ⟨a, 34, none⟩ (.slice (some ⟨w5.heap.size, 0, none⟩) b.on.buckets b.on.buckets)).alloc (Obj.cells (madeCells #[.int .i64 0] b.on.buckets) 3)) a b.on.buckets (woF hd c ax vF vH g b) f2 g2 6) := ⟨_, _, _, ⟨hS⟩⟩
      clear hS HS5
      generalize (w5.setCell ⟨a, 34, none⟩ (.slice (some ⟨w5.heap.size, 0, none⟩) b.on.buckets b.on.buckets)).alloc (Obj.cells (madeCells #[.int .i64 0] b.on.buckets) 3) = w6 at *
      have c35 : w6.cell? ⟨a, 35, none⟩ = some (f6 35) := HS6.out.row.row.cell (by omega)
      have hz6 := HS6.out.row.row.frozen
      have hlt6 := HS6.out.row.row.lt
      have ha6 : ¬ a = w6.heap.size := by omega
      have hb6 : ¬ w6.heap.size = a := by omega
      go_upto_region 12 with fail
      clear c35 hz6 hlt6 ha6 hb6
      have hS := HS6.out.step (Obj.cells (madeCells #[.bool false] b.on.buckets) 4) (made_boolsB b.on.buckets)
      obtain ⟨o7, f7, g7, HS7⟩ : ∃ o f2 g2, Bx (AnS own w o ((w6.setCell ⟨a, 35, none⟩ (.slice (some ⟨w6.heap.size, 0, none⟩) b.on.buckets b.on.buckets)).alloc (Obj.cells (madeCells #[.bool false] b.on.buckets) 4)) a b.on.buckets (woF hd c ax vF vH g b) f2 g2 7) := ⟨_, _, _, ⟨hS⟩⟩
      clear hS HS6
      generalize (w6.setCell ⟨a, 35, none⟩ (.slice (some ⟨w6.heap.size, 0, none⟩) b.on.buckets b.on.buckets)).alloc (Obj.cells (madeCells #[.bool false] b.on.buckets) 4) = w7 at *
      have c36 : w7.cell? ⟨a, 36, none⟩ = some (f7 36) := HS7.out.row.row.cell (by omega)
      have hz7 := HS7.out.row.row.frozen
      have hlt7 := HS7.out.row.row.lt
      have ha7 : ¬ a = w7.heap.size := by omega
      have hb7 : ¬ w7.heap.size = a := by omega
      go_wp2_with fail
      clear c36 hz7 hlt7 ha7 hb7
      clear hmp hnn
      have hNe := HNN.out
      subst hNe
      have hS := HS7.out.step (Obj.cells (madeCells #[.bool false, .int .i64 0, .int .i64 0] (b.on.buckets * b.on.buckets * 3)) 84) (made_pairs (b.on.buckets * b.on.buckets))
      obtain ⟨o8, f8, g8, HS8⟩ : ∃ o f2 g2, Bx (AnS own w o ((w7.setCell ⟨a, 36, none⟩ (.slice (some ⟨w7.heap.size, 0, none⟩) (b.on.buckets * b.on.buckets) (b.on.buckets * b.on.buckets))).alloc (Obj.cells (madeCells #[.bool false, .int .i64 0, .int .i64 0] (b.on.buckets * b.on.buckets * 3)) 84)) a b.on.buckets (woF hd c ax vF vH g b) f2 g2 8) := ⟨_, _, _, ⟨hS⟩⟩
      clear hS HS7
      have HZ : Bx _ := ⟨HS8.out.book HF.out t8 HT.out HH.out⟩
      go_end0
      exact ⟨rfl, o8, HZ.out.1, HZ.out.2⟩

end Go.Proofs.Ytnkicbopebgppab

/-! Another port. -/
namespace Go.Proofs.Ytnkicbopebgppab
open Go.RowKit Fl

set_option maxRecDepth 100000 in
set_option maxHeartbeats 6400000 in
theorem begin_any (own : Nat → Nat) (a hd n : Nat) (c : Cf) (f : Nat → Value) (w : World) (h : Row own w 2 a 38 37 f) (hf : ∀ i, i < 13 → f i = woF hd c 0 (.slice none 0 0) (.slice none 0 0) (fun _ => 9) (Bo.begun c) i) (hj : Junk own w) (hc : c.ok) :
    Calls Try.prog 10 #[.pointer (some ⟨a, 0, none⟩)] w fun e w' => e = .returned (.tuple #[]) ∧ WoPost own w w' a hd n c := by
  have c3 : w.cell? ⟨a, 3, none⟩ = some (.int .i64 c.buckets) := (h.row.cell (i := 3) (by omega)).trans (by rw [hf 3 (by omega)]; rfl)
  have c4 : w.cell? ⟨a, 4, none⟩ = some (.int .i64 c.quantum) := (h.row.cell (i := 4) (by omega)).trans (by rw [hf 4 (by omega)]; rfl)
  have c5 : w.cell? ⟨a, 5, none⟩ = some (.int .i64 c.packets) := (h.row.cell (i := 5) (by omega)).trans (by rw [hf 5 (by omega)]; rfl)
  have c6 : w.cell? ⟨a, 6, none⟩ = some (.int .i64 c.memory) := (h.row.cell (i := 6) (by omega)).trans (by rw [hf 6 (by omega)]; rfl)
  have c7 : w.cell? ⟨a, 7, none⟩ = some (.int .i64 c.length) := (h.row.cell (i := 7) (by omega)).trans (by rw [hf 7 (by omega)]; rfl)
  have c8 : w.cell? ⟨a, 8, none⟩ = some (.int .i64 c.target) := (h.row.cell (i := 8) (by omega)).trans (by rw [hf 8 (by omega)]; rfl)
  have c9 : w.cell? ⟨a, 9, none⟩ = some (.int .i64 c.interval) := (h.row.cell (i := 9) (by omega)).trans (by rw [hf 9 (by omega)]; rfl)
  have c10 : w.cell? ⟨a, 10, none⟩ = some (.int .i64 c.tau) := (h.row.cell (i := 10) (by omega)).trans (by rw [hf 10 (by omega)]; rfl)
  have c11 : w.cell? ⟨a, 11, none⟩ = some (.bool c.ecn) := (h.row.cell (i := 11) (by omega)).trans (by rw [hf 11 (by omega)]; rfl)
  have c12 : w.cell? ⟨a, 12, none⟩ = some (.string c.key) := (h.row.cell (i := 12) (by omega)).trans (by rw [hf 12 (by omega)]; rfl)
  have H : Bx _ := ⟨h⟩
  have HFF : Bx _ := ⟨hf⟩
  have HJ : Bx _ := ⟨hj⟩
  have HC : Bx _ := ⟨hc⟩
  have hb16 := hc.b2
  have HNW : Bx _ := ⟨pnew_any own 100 c w hc⟩
  clear h hf hj hc
  go_enter Try.func10, Try.ntmps10
  go_wp2_with fail
  refine HNW.out.mono ?_
  rintro e w1 ⟨own1, ax, rfl, hp1, hf1⟩
  clear c3 c4 c5 c6 c7 c8 c9 c10 c11 c12 HNW
  have hr1 := H.out.fr hf1 id
  have hf := HFF.out
  have c3 : w1.cell? ⟨a, 3, none⟩ = some (.int .i64 c.buckets) := (hr1.row.cell (i := 3) (by omega)).trans (by rw [hf 3 (by omega)]; rfl)
  have c4 : w1.cell? ⟨a, 4, none⟩ = some (.int .i64 c.quantum) := (hr1.row.cell (i := 4) (by omega)).trans (by rw [hf 4 (by omega)]; rfl)
  have c5 : w1.cell? ⟨a, 5, none⟩ = some (.int .i64 c.packets) := (hr1.row.cell (i := 5) (by omega)).trans (by rw [hf 5 (by omega)]; rfl)
  have c6 : w1.cell? ⟨a, 6, none⟩ = some (.int .i64 c.memory) := (hr1.row.cell (i := 6) (by omega)).trans (by rw [hf 6 (by omega)]; rfl)
  have c7 : w1.cell? ⟨a, 7, none⟩ = some (.int .i64 c.length) := (hr1.row.cell (i := 7) (by omega)).trans (by rw [hf 7 (by omega)]; rfl)
  have c8 : w1.cell? ⟨a, 8, none⟩ = some (.int .i64 c.target) := (hr1.row.cell (i := 8) (by omega)).trans (by rw [hf 8 (by omega)]; rfl)
  have c9 : w1.cell? ⟨a, 9, none⟩ = some (.int .i64 c.interval) := (hr1.row.cell (i := 9) (by omega)).trans (by rw [hf 9 (by omega)]; rfl)
  have c10 : w1.cell? ⟨a, 10, none⟩ = some (.int .i64 c.tau) := (hr1.row.cell (i := 10) (by omega)).trans (by rw [hf 10 (by omega)]; rfl)
  have c11 : w1.cell? ⟨a, 11, none⟩ = some (.bool c.ecn) := (hr1.row.cell (i := 11) (by omega)).trans (by rw [hf 11 (by omega)]; rfl)
  have c12 : w1.cell? ⟨a, 12, none⟩ = some (.string c.key) := (hr1.row.cell (i := 12) (by omega)).trans (by rw [hf 12 (by omega)]; rfl)
  have c13 : w1.cell? ⟨a, 13, none⟩ = some (f 13) := hr1.row.cell (by omega)
  have c14 : w1.cell? ⟨a, 14, none⟩ = some (f 14) := hr1.row.cell (by omega)
  have c15 : w1.cell? ⟨a, 15, none⟩ = some (f 15) := hr1.row.cell (by omega)
  have c16 : w1.cell? ⟨a, 16, none⟩ = some (f 16) := hr1.row.cell (by omega)
  have c17 : w1.cell? ⟨a, 17, none⟩ = some (f 17) := hr1.row.cell (by omega)
  have c18 : w1.cell? ⟨a, 18, none⟩ = some (f 18) := hr1.row.cell (by omega)
  have c19 : w1.cell? ⟨a, 19, none⟩ = some (f 19) := hr1.row.cell (by omega)
  have c20 : w1.cell? ⟨a, 20, none⟩ = some (f 20) := hr1.row.cell (by omega)
  have c21 : w1.cell? ⟨a, 21, none⟩ = some (f 21) := hr1.row.cell (by omega)
  have c22 : w1.cell? ⟨a, 22, none⟩ = some (f 22) := hr1.row.cell (by omega)
  have c23 : w1.cell? ⟨a, 23, none⟩ = some (f 23) := hr1.row.cell (by omega)
  have c24 : w1.cell? ⟨a, 24, none⟩ = some (f 24) := hr1.row.cell (by omega)
  have c25 : w1.cell? ⟨a, 25, none⟩ = some (f 25) := hr1.row.cell (by omega)
  have c26 : w1.cell? ⟨a, 26, none⟩ = some (f 26) := hr1.row.cell (by omega)
  have c27 : w1.cell? ⟨a, 27, none⟩ = some (f 27) := hr1.row.cell (by omega)
  have c28 : w1.cell? ⟨a, 28, none⟩ = some (f 28) := hr1.row.cell (by omega)
  have hz := hr1.row.frozen
  have HR1 : Bx _ := ⟨hr1⟩
  have HP1 : Bx _ := ⟨And.intro hp1 hf1⟩
  clear hr1 hf hp1 hf1
  go_upto_region 11 with fail
  have hr1 := HR1.out
  have hf := HFF.out
  have hr2 := ((((((((((((((((hr1.set 13 (.pointer (some ⟨ax, 0, none⟩))).set 14 (.int .i64 c.buckets)).set 15 (.int .i64 c.quantum)).set 16 (.int .i64 c.packets)).set 17 (.int .i64 c.memory)).set 18 (.int .i64 c.length)).set 19 (.int .i64 c.target)).set 20 (.int .i64 c.interval)).set 21 (.int .i64 c.tau)).set 22 (.bool c.ecn)).set 23 (.string c.key)).set 24 (.slice none 0 0)).set 25 (.slice none 0 0)).set 26 (.int .i64 0)).set 28 (.int .i64 0)).set 27 (.bool false))
  have k2 : Fr (fun t => t = 2) own1 own1 w1 ((((((((((((((((w1.setCell ⟨a, 13, none⟩ (.pointer (some ⟨ax, 0, none⟩))).setCell ⟨a, 14, none⟩ (.int .i64 c.buckets)).setCell ⟨a, 15, none⟩ (.int .i64 c.quantum)).setCell ⟨a, 16, none⟩ (.int .i64 c.packets)).setCell ⟨a, 17, none⟩ (.int .i64 c.memory)).setCell ⟨a, 18, none⟩ (.int .i64 c.length)).setCell ⟨a, 19, none⟩ (.int .i64 c.target)).setCell ⟨a, 20, none⟩ (.int .i64 c.interval)).setCell ⟨a, 21, none⟩ (.int .i64 c.tau)).setCell ⟨a, 22, none⟩ (.bool c.ecn)).setCell ⟨a, 23, none⟩ (.string c.key)).setCell ⟨a, 24, none⟩ (.slice none 0 0)).setCell ⟨a, 25, none⟩ (.slice none 0 0)).setCell ⟨a, 26, none⟩ (.int .i64 0)).setCell ⟨a, 28, none⟩ (.int .i64 0)).setCell ⟨a, 27, none⟩ (.bool false)) := (((((((((((((((((Fr.refl _ own1 w1).setCell a 13 (.pointer (some ⟨ax, 0, none⟩)) hr1.tag).setCell a 14 (.int .i64 c.buckets) hr1.tag).setCell a 15 (.int .i64 c.quantum) hr1.tag).setCell a 16 (.int .i64 c.packets) hr1.tag).setCell a 17 (.int .i64 c.memory) hr1.tag).setCell a 18 (.int .i64 c.length) hr1.tag).setCell a 19 (.int .i64 c.target) hr1.tag).setCell a 20 (.int .i64 c.interval) hr1.tag).setCell a 21 (.int .i64 c.tau) hr1.tag).setCell a 22 (.bool c.ecn) hr1.tag).setCell a 23 (.string c.key) hr1.tag).setCell a 24 (.slice none 0 0) hr1.tag).setCell a 25 (.slice none 0 0) hr1.tag).setCell a 26 (.int .i64 0) hr1.tag).setCell a 28 (.int .i64 0) hr1.tag).setCell a 27 (.bool false) hr1.tag)
  have HS2 : Bx _ := ⟨And.intro hr2 k2⟩
  clear hr1 hr2 k2 c3 c4 c5 c6 c7 c8 c9 c10 c11 c12 c13 c14 c15 c16 c17 c18 c19 c20 c21 c22 c23 c24 c25 c26 c27 c28 hz
  generalize ((((((((((((((((w1.setCell ⟨a, 13, none⟩ (.pointer (some ⟨ax, 0, none⟩))).setCell ⟨a, 14, none⟩ (.int .i64 c.buckets)).setCell ⟨a, 15, none⟩ (.int .i64 c.quantum)).setCell ⟨a, 16, none⟩ (.int .i64 c.packets)).setCell ⟨a, 17, none⟩ (.int .i64 c.memory)).setCell ⟨a, 18, none⟩ (.int .i64 c.length)).setCell ⟨a, 19, none⟩ (.int .i64 c.target)).setCell ⟨a, 20, none⟩ (.int .i64 c.interval)).setCell ⟨a, 21, none⟩ (.int .i64 c.tau)).setCell ⟨a, 22, none⟩ (.bool c.ecn)).setCell ⟨a, 23, none⟩ (.string c.key)).setCell ⟨a, 24, none⟩ (.slice none 0 0)).setCell ⟨a, 25, none⟩ (.slice none 0 0)).setCell ⟨a, 26, none⟩ (.int .i64 0)).setCell ⟨a, 28, none⟩ (.int .i64 0)).setCell ⟨a, 27, none⟩ (.bool false)) = w2 at *
  have HAN : Bx _ := ⟨anew_any own1 a hd c ax (.slice none 0 0) (.slice none 0 0) (fun _ => 9) (Bo.begun c) _ w2 HS2.out.1 (fun i hi => by
    match i, hi with
    | 0, _ => exact (hf 0 (by omega)).trans rfl
    | 1, _ => exact (hf 1 (by omega)).trans rfl
    | 2, _ => exact (hf 2 (by omega)).trans rfl
    | 3, _ => exact (hf 3 (by omega)).trans rfl
    | 4, _ => exact (hf 4 (by omega)).trans rfl
    | 5, _ => exact (hf 5 (by omega)).trans rfl
    | 6, _ => exact (hf 6 (by omega)).trans rfl
    | 7, _ => exact (hf 7 (by omega)).trans rfl
    | 8, _ => exact (hf 8 (by omega)).trans rfl
    | 9, _ => exact (hf 9 (by omega)).trans rfl
    | 10, _ => exact (hf 10 (by omega)).trans rfl
    | 11, _ => exact (hf 11 (by omega)).trans rfl
    | 12, _ => exact (hf 12 (by omega)).trans rfl
    | 13, _ => exact rfl
    | 14, _ => exact rfl
    | 15, _ => exact rfl
    | 16, _ => exact rfl
    | 17, _ => exact rfl
    | 18, _ => exact rfl
    | 19, _ => exact rfl
    | 20, _ => exact rfl
    | 21, _ => exact rfl
    | 22, _ => exact rfl
    | 23, _ => exact rfl
    | 24, _ => exact rfl
    | 25, _ => exact rfl
    | 26, _ => exact rfl
    | 27, _ => exact rfl
    | 28, _ => exact rfl
    | k + 29, hk => exact absurd hk (by omega)) (Sl.nil _ _ _ _ _) 9 (.inl rfl) (Sl.nil _ _ _ _ _) hb16⟩
  clear hf
  go_wp2_with fail
  refine HAN.out.mono ?_
  rintro e w3 ⟨rfl, own3, hb3, hf3⟩
  have hB : Fr BTag own1 own3 w1 w3 := (HS2.out.2.mono (fun t e => by rw [e]; exact ⟨by omega, by omega⟩)).trans hf3
  have hall : Fr WTag own own3 w w3 := (HP1.out.2.mono (fun _ e => e.elim)).trans (hB.mono (fun t ht => by show t ≠ 0; have := ht.1; omega))
  have HZ : Bx (WoPost own w w3 a hd n c) := ⟨⟨own3, ⟨ax, Pt.made c, Bo.begun c, ⟨hb3, HP1.out.1.fr hb16 hB, hall.junk HJ.out, HC.out, fun hd => JB.begun hd c HC.out, BdB.begun _ c, Nat.zero_le _⟩⟩, hall⟩⟩
  clear hb3 hf3 hB hall HAN HS2
  go_wp2_with fail
  go_end0
  exact ⟨rfl, HZ.out⟩

end Go.Proofs.Ytnkicbopebgppab

/-! Steps of the script. -/
namespace Go.Proofs.Ytnkicbopebgppab
open Go.RowKit Fl

theorem size_zero {t : ByteArray} (h : t.size = 0) : t = ⟨#[]⟩ := by
  cases t with
  | mk d =>
    have h2 : d.size = 0 := h
    rw [Array.eq_empty_of_size_eq_zero h2]

/-- A frame arrives, whatever it is. -/
theorem arrives_any (own : Nat → Nat) (a hd m : Nat) (c : Cf) (t : ByteArray) (able : Bool) (w : World) (h : WoAt own w a hd m c) (hm : m < 16777216) (hable : able = true → canB t = true) (hH : HonestIs) :
    Calls Try.prog 17 #[.pointer (some ⟨a, 0, none⟩), .string t, .bool able] w fun e w' => e = .returned (.tuple #[]) ∧ WoPost own w w' a hd (m + 1) c := by
  by_cases h0 : t.size = 0
  · exact arrives_empty own a hd m c t able w h (size_zero h0)
  · obtain ⟨ax, p, b, h⟩ := h
    by_cases h1 : p.c.length < t.size
    · exact arrives_long own a hd m c ax p b t able w h (by omega) h1
    · exact arrives_join own a hd m c ax p b t able w h hm (by omega) (by omega) hable hH

/-- Another port, between two steps. -/
theorem begin_step (own : Nat → Nat) (a hd m : Nat) (c : Cf) (w : World) (h : WoAt own w a hd m c) :
    Calls Try.prog 10 #[.pointer (some ⟨a, 0, none⟩)] w fun e w' => e = .returned (.tuple #[]) ∧ WoPost own w w' a hd (m + 1) c := by
  obtain ⟨ax, p, b, h⟩ := h
  obtain ⟨vF, vH, g, hb⟩ := h.bo
  refine begin_any own a hd (m + 1) c _ w hb.row (fun i hi => ?_) h.jk h.cok
  match i, hi with
  | 0, _ => rfl
  | 1, _ => rfl
  | 2, _ => rfl
  | 3, _ => rfl
  | 4, _ => rfl
  | 5, _ => rfl
  | 6, _ => rfl
  | 7, _ => rfl
  | 8, _ => rfl
  | 9, _ => rfl
  | 10, _ => rfl
  | 11, _ => rfl
  | 12, _ => rfl
  | k + 13, hk => exact absurd hk (by omega)

end Go.Proofs.Ytnkicbopebgppab

/-! A number of the configuration. -/
namespace Go.Proofs.Ytnkicbopebgppab
open Go.RowKit Fl

structure WoPostC (own : Nat → Nat) (w w' : World) (a hd m : Nat) : Prop where
  ex : ∃ c, WoPost own w w' a hd m c

theorem WoIs.cset {own : Nat → Nat} {w : World} {a hd m ax : Nat} {c : Cf} {p : Pt} {b : Bo} (h : WoIs own w a hd c m ax p b) (j : Nat) (u : Value) (c' : Cf) (hc : c'.ok) (hrow : ∀ vF vH g i, i < 37 → woF hd c' ax vF vH g b i = if i = j then u else woF hd c ax vF vH g b i) :
    WoIs own (w.setCell ⟨a, j, none⟩ u) a hd c' m ax p b ∧ Fr WTag own own w (w.setCell ⟨a, j, none⟩ u) := by
  obtain ⟨vF, vH, g, hb⟩ := h.bo
  have k : Fr BTag own own w (w.setCell ⟨a, j, none⟩ u) := (Fr.refl _ own w).setCell a _ _ (by rw [hb.row.tag]; exact ⟨by omega, by omega⟩)
  exact ⟨⟨⟨vF, vH, g, hb.set j u (hrow vF vH g) rfl hb.f hb.here rfl rfl rfl rfl rfl rfl rfl rfl⟩, h.pt.fr (h.jb 0).ok.c.b2 k, k.junk h.jk, hc, h.jb, h.bd, h.ids⟩, k.mono (fun t ht => by show t ≠ 0; have := ht.1; omega)⟩

theorem cok0 {c : Cf} (h : c.ok) (K : Nat) (hK : K < 16) : ({ c with buckets := 1 + K } : Cf).ok :=
  ⟨by show 1 ≤ 1 + K; omega, by show 1 + K ≤ 16; omega, h.q1, h.q2, h.p1, h.p2, h.l1, h.l2, h.m1, h.m2, h.t1, h.t2, h.i2, h.u1, h.u2, h.k16⟩

set_option maxRecDepth 100000 in
set_option maxHeartbeats 3200000 in
theorem number_0 (own : Nat → Nat) (a hd m : Nat) (c : Cf) (v : Int) (w : World) (h : WoAt own w a hd m c) (h1 : -9223372036854775808 ≤ v) (h2 : v ≤ 9223372036854775807) :
    Calls Try.prog 16 #[.pointer (some ⟨a, 0, none⟩), .int .i64 0, .int .i64 v] w fun e w' => e = .returned (.tuple #[]) ∧ WoPostC own w w' a hd (m + 1) := by
  obtain ⟨ax, p, b, h⟩ := h
  obtain ⟨K, HK⟩ : ∃ K, Bx (pickOf v 16 = K) := ⟨_, ⟨rfl⟩⟩
  have hK : K < 16 := by rw [← HK.out]; exact pickOf_lt v 16 (by omega)
  have HP : Bx _ := ⟨pick_any v 16 K w h1 h2 (by omega) (by omega) HK⟩
  have c0 : w.cell? ⟨a, 3, none⟩ = some (.int .i64 c.buckets) := by
    obtain ⟨vF, vH, g, hb⟩ := h.bo
    exact hb.cell 3 (by omega)
  have hz : ∀ i, w.frozen? ⟨a, i, none⟩ = false := by
    obtain ⟨vF, vH, g, hb⟩ := h.bo
    exact hb.frozen
  have HN : Bx (WoPostC own w (w.setCell ⟨a, 3, none⟩ (.int .i64 (1 + (K : Int)))) a hd (m + 1)) := by
    have e : (1 + (K : Int)) = ((1 + K : Nat) : Int) := by simp
    rw [e]
    obtain ⟨N1, K1⟩ := h.cset 3 (.int .i64 ((1 + K : Nat) : Int)) { c with buckets := 1 + K } (cok0 h.cok K hK) (fun vF vH g => all37 rfl rfl rfl rfl rfl rfl rfl rfl rfl rfl rfl rfl rfl rfl rfl rfl rfl rfl rfl rfl rfl rfl rfl rfl rfl rfl rfl rfl rfl rfl rfl rfl rfl rfl rfl rfl rfl )
    exact ⟨⟨_, ⟨own, ⟨ax, p, b, N1.later (by omega)⟩, K1⟩⟩⟩
  clear h
  go_enter Try.func16, Try.ntmps16
  go_wp2_with fail
  refine HP.out.mono ?_
  rintro e wz ⟨rfl, hq⟩
  subst hq
  go_wp2_with fail
  go_end0
  exact ⟨rfl, HN.out⟩

theorem cok1 {c : Cf} (h : c.ok) (K : Nat) (hK : K < 1000) : ({ c with quantum := 1 + K } : Cf).ok :=
  ⟨h.b1, h.b2, by show 1 ≤ 1 + K; omega, by show 1 + K ≤ 1000; omega, h.p1, h.p2, h.l1, h.l2, h.m1, h.m2, h.t1, h.t2, h.i2, h.u1, h.u2, h.k16⟩

set_option maxRecDepth 100000 in
set_option maxHeartbeats 3200000 in
theorem number_1 (own : Nat → Nat) (a hd m : Nat) (c : Cf) (v : Int) (w : World) (h : WoAt own w a hd m c) (h1 : -9223372036854775808 ≤ v) (h2 : v ≤ 9223372036854775807) :
    Calls Try.prog 16 #[.pointer (some ⟨a, 0, none⟩), .int .i64 1, .int .i64 v] w fun e w' => e = .returned (.tuple #[]) ∧ WoPostC own w w' a hd (m + 1) := by
  obtain ⟨ax, p, b, h⟩ := h
  obtain ⟨K, HK⟩ : ∃ K, Bx (pickOf v 1000 = K) := ⟨_, ⟨rfl⟩⟩
  have hK : K < 1000 := by rw [← HK.out]; exact pickOf_lt v 1000 (by omega)
  have HP : Bx _ := ⟨pick_any v 1000 K w h1 h2 (by omega) (by omega) HK⟩
  have c0 : w.cell? ⟨a, 4, none⟩ = some (.int .i64 c.quantum) := by
    obtain ⟨vF, vH, g, hb⟩ := h.bo
    exact hb.cell 4 (by omega)
  have hz : ∀ i, w.frozen? ⟨a, i, none⟩ = false := by
    obtain ⟨vF, vH, g, hb⟩ := h.bo
    exact hb.frozen
  have HN : Bx (WoPostC own w (w.setCell ⟨a, 4, none⟩ (.int .i64 (1 + (K : Int)))) a hd (m + 1)) := by
    have e : (1 + (K : Int)) = ((1 + K : Nat) : Int) := by simp
    rw [e]
    obtain ⟨N1, K1⟩ := h.cset 4 (.int .i64 ((1 + K : Nat) : Int)) { c with quantum := 1 + K } (cok1 h.cok K hK) (fun vF vH g => all37 rfl rfl rfl rfl rfl rfl rfl rfl rfl rfl rfl rfl rfl rfl rfl rfl rfl rfl rfl rfl rfl rfl rfl rfl rfl rfl rfl rfl rfl rfl rfl rfl rfl rfl rfl rfl rfl )
    exact ⟨⟨_, ⟨own, ⟨ax, p, b, N1.later (by omega)⟩, K1⟩⟩⟩
  clear h
  go_enter Try.func16, Try.ntmps16
  go_wp2_with fail
  refine HP.out.mono ?_
  rintro e wz ⟨rfl, hq⟩
  subst hq
  go_wp2_with fail
  go_end0
  exact ⟨rfl, HN.out⟩

theorem cok2 {c : Cf} (h : c.ok) (K : Nat) (hK : K < 64) : ({ c with packets := 1 + K } : Cf).ok :=
  ⟨h.b1, h.b2, h.q1, h.q2, by show 1 ≤ 1 + K; omega, by show 1 + K ≤ 64; omega, h.l1, h.l2, h.m1, h.m2, h.t1, h.t2, h.i2, h.u1, h.u2, h.k16⟩

set_option maxRecDepth 100000 in
set_option maxHeartbeats 3200000 in
theorem number_2 (own : Nat → Nat) (a hd m : Nat) (c : Cf) (v : Int) (w : World) (h : WoAt own w a hd m c) (h1 : -9223372036854775808 ≤ v) (h2 : v ≤ 9223372036854775807) :
    Calls Try.prog 16 #[.pointer (some ⟨a, 0, none⟩), .int .i64 2, .int .i64 v] w fun e w' => e = .returned (.tuple #[]) ∧ WoPostC own w w' a hd (m + 1) := by
  obtain ⟨ax, p, b, h⟩ := h
  obtain ⟨K, HK⟩ : ∃ K, Bx (pickOf v 64 = K) := ⟨_, ⟨rfl⟩⟩
  have hK : K < 64 := by rw [← HK.out]; exact pickOf_lt v 64 (by omega)
  have HP : Bx _ := ⟨pick_any v 64 K w h1 h2 (by omega) (by omega) HK⟩
  have c0 : w.cell? ⟨a, 5, none⟩ = some (.int .i64 c.packets) := by
    obtain ⟨vF, vH, g, hb⟩ := h.bo
    exact hb.cell 5 (by omega)
  have hz : ∀ i, w.frozen? ⟨a, i, none⟩ = false := by
    obtain ⟨vF, vH, g, hb⟩ := h.bo
    exact hb.frozen
  have HN : Bx (WoPostC own w (w.setCell ⟨a, 5, none⟩ (.int .i64 (1 + (K : Int)))) a hd (m + 1)) := by
    have e : (1 + (K : Int)) = ((1 + K : Nat) : Int) := by simp
    rw [e]
    obtain ⟨N1, K1⟩ := h.cset 5 (.int .i64 ((1 + K : Nat) : Int)) { c with packets := 1 + K } (cok2 h.cok K hK) (fun vF vH g => all37 rfl rfl rfl rfl rfl rfl rfl rfl rfl rfl rfl rfl rfl rfl rfl rfl rfl rfl rfl rfl rfl rfl rfl rfl rfl rfl rfl rfl rfl rfl rfl rfl rfl rfl rfl rfl rfl )
    exact ⟨⟨_, ⟨own, ⟨ax, p, b, N1.later (by omega)⟩, K1⟩⟩⟩
  clear h
  go_enter Try.func16, Try.ntmps16
  go_wp2_with fail
  refine HP.out.mono ?_
  rintro e wz ⟨rfl, hq⟩
  subst hq
  go_wp2_with fail
  go_end0
  exact ⟨rfl, HN.out⟩

theorem cok7 {c : Cf} (h : c.ok) (K : Nat) (hK : K < 1048576) : ({ c with tau := 1 + K } : Cf).ok :=
  ⟨h.b1, h.b2, h.q1, h.q2, h.p1, h.p2, h.l1, h.l2, h.m1, h.m2, h.t1, h.t2, h.i2, by show 1 ≤ 1 + K; omega, by show 1 + K ≤ 1048576; omega, h.k16⟩

set_option maxRecDepth 100000 in
set_option maxHeartbeats 3200000 in
theorem number_7 (own : Nat → Nat) (a hd m : Nat) (c : Cf) (v : Int) (w : World) (h : WoAt own w a hd m c) (h1 : -9223372036854775808 ≤ v) (h2 : v ≤ 9223372036854775807) :
    Calls Try.prog 16 #[.pointer (some ⟨a, 0, none⟩), .int .i64 7, .int .i64 v] w fun e w' => e = .returned (.tuple #[]) ∧ WoPostC own w w' a hd (m + 1) := by
  obtain ⟨ax, p, b, h⟩ := h
  obtain ⟨K, HK⟩ : ∃ K, Bx (pickOf v 1048576 = K) := ⟨_, ⟨rfl⟩⟩
  have hK : K < 1048576 := by rw [← HK.out]; exact pickOf_lt v 1048576 (by omega)
  have HP : Bx _ := ⟨pick_any v 1048576 K w h1 h2 (by omega) (by omega) HK⟩
  have c0 : w.cell? ⟨a, 10, none⟩ = some (.int .i64 c.tau) := by
    obtain ⟨vF, vH, g, hb⟩ := h.bo
    exact hb.cell 10 (by omega)
  have hz : ∀ i, w.frozen? ⟨a, i, none⟩ = false := by
    obtain ⟨vF, vH, g, hb⟩ := h.bo
    exact hb.frozen
  have HN : Bx (WoPostC own w (w.setCell ⟨a, 10, none⟩ (.int .i64 (1 + (K : Int)))) a hd (m + 1)) := by
    have e : (1 + (K : Int)) = ((1 + K : Nat) : Int) := by simp
    rw [e]
    obtain ⟨N1, K1⟩ := h.cset 10 (.int .i64 ((1 + K : Nat) : Int)) { c with tau := 1 + K } (cok7 h.cok K hK) (fun vF vH g => all37 rfl rfl rfl rfl rfl rfl rfl rfl rfl rfl rfl rfl rfl rfl rfl rfl rfl rfl rfl rfl rfl rfl rfl rfl rfl rfl rfl rfl rfl rfl rfl rfl rfl rfl rfl rfl rfl )
    exact ⟨⟨_, ⟨own, ⟨ax, p, b, N1.later (by omega)⟩, K1⟩⟩⟩
  clear h
  go_enter Try.func16, Try.ntmps16
  go_wp2_with fail
  refine HP.out.mono ?_
  rintro e wz ⟨rfl, hq⟩
  subst hq
  go_wp2_with fail
  go_end0
  exact ⟨rfl, HN.out⟩

end Go.Proofs.Ytnkicbopebgppab

/-! A number of the configuration: the other cases. -/
namespace Go.Proofs.Ytnkicbopebgppab
open Go.RowKit Fl

theorem cok5 {c : Cf} (h : c.ok) (K : Nat) (hK : K < c.interval) : ({ c with target := 1 + K } : Cf).ok :=
  ⟨h.b1, h.b2, h.q1, h.q2, h.p1, h.p2, h.l1, h.l2, h.m1, h.m2, by show 1 ≤ 1 + K; omega, by show 1 + K ≤ c.interval; omega, h.i2, h.u1, h.u2, h.k16⟩

set_option maxRecDepth 100000 in
set_option maxHeartbeats 3200000 in
theorem number_5 (own : Nat → Nat) (a hd m : Nat) (c : Cf) (v : Int) (w : World) (h : WoAt own w a hd m c) (h1 : -9223372036854775808 ≤ v) (h2 : v ≤ 9223372036854775807) :
    Calls Try.prog 16 #[.pointer (some ⟨a, 0, none⟩), .int .i64 5, .int .i64 v] w fun e w' => e = .returned (.tuple #[]) ∧ WoPostC own w w' a hd (m + 1) := by
  obtain ⟨ax, p, b, h⟩ := h
  have hi1 : 1 ≤ c.interval := Nat.le_trans h.cok.t1 h.cok.t2
  have hi2 := h.cok.i2
  obtain ⟨K, HK⟩ : ∃ K, Bx (pickOf v c.interval = K) := ⟨_, ⟨rfl⟩⟩
  have hK : K < c.interval := by rw [← HK.out]; exact pickOf_lt v c.interval hi1
  have HP : Bx _ := ⟨pick_any v c.interval K w h1 h2 hi1 (by omega) HK⟩
  obtain ⟨vF, vH, g, hb⟩ := h.bo
  have c0 : w.cell? ⟨a, 8, none⟩ = some (.int .i64 c.target) := hb.cell 8 (by omega)
  have c9 : w.cell? ⟨a, 9, none⟩ = some (.int .i64 c.interval) := hb.cell 9 (by omega)
  have hz : ∀ i, w.frozen? ⟨a, i, none⟩ = false := hb.frozen
  have HN : Bx (WoPostC own w (w.setCell ⟨a, 8, none⟩ (.int .i64 (1 + (K : Int)))) a hd (m + 1)) := by
    have e : (1 + (K : Int)) = ((1 + K : Nat) : Int) := by simp
    rw [e]
    obtain ⟨N1, K1⟩ := h.cset 8 (.int .i64 ((1 + K : Nat) : Int)) { c with target := 1 + K } (cok5 h.cok K hK) (fun vF vH g => all37 rfl rfl rfl rfl rfl rfl rfl rfl rfl rfl rfl rfl rfl rfl rfl rfl rfl rfl rfl rfl rfl rfl rfl rfl rfl rfl rfl rfl rfl rfl rfl rfl rfl rfl rfl rfl rfl )
    exact ⟨⟨_, ⟨own, ⟨ax, p, b, N1.later (by omega)⟩, K1⟩⟩⟩
  clear h hb
  go_enter Try.func16, Try.ntmps16
  go_wp2_with fail
  refine HP.out.mono ?_
  rintro e wz ⟨rfl, hq⟩
  subst hq
  go_wp2_with fail
  go_end0
  exact ⟨rfl, HN.out⟩

theorem WoIs.ecn {own : Nat → Nat} {w : World} {a hd m ax : Nat} {c : Cf} {p : Pt} {b : Bo} (h : WoIs own w a hd c m ax p b) (x : Bool) : WoPostC own w (w.setCell ⟨a, 11, none⟩ (.bool x)) a hd (m + 1) := by
  have hc := h.cok
  obtain ⟨N1, K1⟩ := h.cset 11 (.bool x) { c with ecn := x } ⟨hc.b1, hc.b2, hc.q1, hc.q2, hc.p1, hc.p2, hc.l1, hc.l2, hc.m1, hc.m2, hc.t1, hc.t2, hc.i2, hc.u1, hc.u2, hc.k16⟩ (fun vF vH g => all37 rfl rfl rfl rfl rfl rfl rfl rfl rfl rfl rfl rfl rfl rfl rfl rfl rfl rfl rfl rfl rfl rfl rfl rfl rfl rfl rfl rfl rfl rfl rfl rfl rfl rfl rfl rfl rfl )
  exact ⟨_, ⟨own, ⟨ax, p, b, N1.later (by omega)⟩, K1⟩⟩

set_option maxRecDepth 100000 in
set_option maxHeartbeats 3200000 in
theorem number_8 (own : Nat → Nat) (a hd m : Nat) (c : Cf) (v : Int) (w : World) (h : WoAt own w a hd m c) :
    Calls Try.prog 16 #[.pointer (some ⟨a, 0, none⟩), .int .i64 8, .int .i64 v] w fun e w' => e = .returned (.tuple #[]) ∧ WoPostC own w w' a hd (m + 1) := by
  obtain ⟨ax, p, b, h⟩ := h
  obtain ⟨vF, vH, g, hb⟩ := h.bo
  have c0 : w.cell? ⟨a, 11, none⟩ = some (.bool c.ecn) := hb.cell 11 (by omega)
  have hz : ∀ i, w.frozen? ⟨a, i, none⟩ = false := hb.frozen
  have H : Bx _ := ⟨h⟩
  clear h hb
  go_enter Try.func16, Try.ntmps16
  go_wp2_with fail
  go_end0
  exact ⟨rfl, H.out.ecn _⟩

end Go.Proofs.Ytnkicbopebgppab

/-! A number of the configuration: the cases that may turn another. -/
namespace Go.Proofs.Ytnkicbopebgppab
open Go.RowKit Fl

theorem WoIs.cset1 {own : Nat → Nat} {w : World} {a hd m ax : Nat} {c : Cf} {p : Pt} {b : Bo} (h : WoIs own w a hd c m ax p b) (j : Nat) (u : Value) (n : Nat) (c' : Cf) (hc : c'.ok) (hrow : ∀ vF vH g i, i < 37 → woF hd c' ax vF vH g b i = if i = j then u else woF hd c ax vF vH g b i) :
    WoPostC own w ((w.setCell ⟨a, j, none⟩ u).drewN n) a hd (m + 1) := by
  obtain ⟨N1, K1⟩ := h.cset j u c' hc hrow
  have k : Below (w.setCell ⟨a, j, none⟩ u).heap.size (w.setCell ⟨a, j, none⟩ u) ((w.setCell ⟨a, j, none⟩ u).drewN n) := (Below.refl _ _).drewN n
  exact ⟨_, ⟨own, ⟨ax, p, b, (N1.below k).later (by omega)⟩, K1.trans (Fr.below k)⟩⟩

theorem WoIs.cset2 {own : Nat → Nat} {w : World} {a hd m ax : Nat} {c : Cf} {p : Pt} {b : Bo} (h : WoIs own w a hd c m ax p b) (j : Nat) (u : Value) (n : Nat) (c1 : Cf) (hrow : ∀ vF vH g i, i < 37 → woF hd c1 ax vF vH g b i = if i = j then u else woF hd c ax vF vH g b i)
    (j2 : Nat) (u2 : Value) (c2 : Cf) (hc : c2.ok) (hrow2 : ∀ vF vH g i, i < 37 → woF hd c2 ax vF vH g b i = if i = j2 then u2 else woF hd c1 ax vF vH g b i) :
    WoPostC own w (((w.setCell ⟨a, j, none⟩ u).drewN n).setCell ⟨a, j2, none⟩ u2) a hd (m + 1) := by
  obtain ⟨vF, vH, g, hb⟩ := h.bo
  have k0 : Below (w.setCell ⟨a, j, none⟩ u).heap.size (w.setCell ⟨a, j, none⟩ u) ((w.setCell ⟨a, j, none⟩ u).drewN n) := (Below.refl _ _).drewN n
  have hb1 : BoIs own ((w.setCell ⟨a, j, none⟩ u).drewN n) a hd c1 ax vF vH g b := (hb.set j u (hrow vF vH g) rfl hb.f hb.here rfl rfl rfl rfl rfl rfl rfl rfl).below k0
  have tg : BTag (own a) := by rw [hb.row.tag]; exact ⟨by omega, by omega⟩
  have k : Fr BTag own own w (((w.setCell ⟨a, j, none⟩ u).drewN n).setCell ⟨a, j2, none⟩ u2) := ((((Fr.refl _ own w).setCell a _ _ tg).trans (Fr.below k0)).setCell a _ _ tg)
  exact ⟨c2, ⟨own, ⟨ax, p, b, ⟨⟨vF, vH, g, hb1.set j2 u2 (hrow2 vF vH g) rfl hb1.f hb1.here rfl rfl rfl rfl rfl rfl rfl rfl⟩, h.pt.fr (h.jb 0).ok.c.b2 k, k.junk h.jk, hc, h.jb, h.bd, Nat.le_trans h.ids (by omega)⟩⟩, k.mono (fun t ht => by show t ≠ 0; have := ht.1; omega)⟩⟩

set_option maxRecDepth 100000 in
set_option maxHeartbeats 3200000 in
theorem number_6 (own : Nat → Nat) (a hd m : Nat) (c : Cf) (v : Int) (w : World) (h : WoAt own w a hd m c) (h1 : -9223372036854775808 ≤ v) (h2 : v ≤ 9223372036854775807) :
    Calls Try.prog 16 #[.pointer (some ⟨a, 0, none⟩), .int .i64 6, .int .i64 v] w fun e w' => e = .returned (.tuple #[]) ∧ WoPostC own w w' a hd (m + 1) := by
  obtain ⟨ax, p, b, h⟩ := h
  obtain ⟨K, HK⟩ : ∃ K, Bx (pickOf v 1099511627776 = K) := ⟨_, ⟨rfl⟩⟩
  have hK : K < 1099511627776 := by rw [← HK.out]; exact pickOf_lt v 1099511627776 (by omega)
  have HP : Bx _ := ⟨pick_any v 1099511627776 K w h1 h2 (by omega) (by omega) HK⟩
  obtain ⟨vF, vH, g, hb⟩ := h.bo
  have ca : w.cell? ⟨a, 9, none⟩ = some (.int .i64 c.interval) := hb.cell 9 (by omega)
  have cb : w.cell? ⟨a, 8, none⟩ = some (.int .i64 c.target) := hb.cell 8 (by omega)
  have hz : ∀ i, w.frozen? ⟨a, i, none⟩ = false := hb.frozen
  have hk := h.cok
  have hq1 := hk.l2
  have hq2 := hk.m2
  have hq3 := hk.i2
  have hq4 := hk.t2
  have e1 : (1 + (K : Int)) = ((1 + K : Nat) : Int) := by simp
  have e2 : (1 + (K : Int)) = ((1 + K : Nat) : Int) := by simp
  have HA : Bx (¬ (1 + (K : Int)) < (c.target : Int) → ∀ n, WoPostC own w ((w.setCell ⟨a, 9, none⟩ (.int .i64 (1 + (K : Int)))).drewN n) a hd (m + 1)) := ⟨fun hx n => by
    rw [e1]
    exact h.cset1 9 _ n { c with interval := 1 + K } (⟨hk.b1, hk.b2, hk.q1, hk.q2, hk.p1, hk.p2, hk.l1, hk.l2, hk.m1, hk.m2, hk.t1, by show c.target ≤ 1 + K; omega, by show 1 + K ≤ 1099511627776; omega, hk.u1, hk.u2, hk.k16⟩) (fun vF vH g => all37 rfl rfl rfl rfl rfl rfl rfl rfl rfl rfl rfl rfl rfl rfl rfl rfl rfl rfl rfl rfl rfl rfl rfl rfl rfl rfl rfl rfl rfl rfl rfl rfl rfl rfl rfl rfl rfl )⟩
  have HB : Bx ((1 + (K : Int)) < (c.target : Int) → ∀ n, WoPostC own w (((w.setCell ⟨a, 9, none⟩ (.int .i64 (1 + (K : Int)))).drewN n).setCell ⟨a, 8, none⟩ (.int .i64 (1 + (K : Int)))) a hd (m + 1)) := ⟨fun _ n => by
    rw [e2]
    try rw [e1]
    exact h.cset2 9 _ n { c with interval := 1 + K } (fun vF vH g => all37 rfl rfl rfl rfl rfl rfl rfl rfl rfl rfl rfl rfl rfl rfl rfl rfl rfl rfl rfl rfl rfl rfl rfl rfl rfl rfl rfl rfl rfl rfl rfl rfl rfl rfl rfl rfl rfl ) 8 _ { c with interval := 1 + K, target := 1 + K } (⟨hk.b1, hk.b2, hk.q1, hk.q2, hk.p1, hk.p2, hk.l1, hk.l2, hk.m1, hk.m2, by show 1 ≤ 1 + K; omega, Nat.le_refl _, by show 1 + K ≤ 1099511627776; omega, hk.u1, hk.u2, hk.k16⟩) (fun vF vH g => all37 rfl rfl rfl rfl rfl rfl rfl rfl rfl rfl rfl rfl rfl rfl rfl rfl rfl rfl rfl rfl rfl rfl rfl rfl rfl rfl rfl rfl rfl rfl rfl rfl rfl rfl rfl rfl rfl )⟩
  clear h hb hk e1 e2
  go_enter Try.func16, Try.ntmps16
  go_wp2_with fail
  refine HP.out.mono ?_
  rintro e wz ⟨rfl, hq⟩
  subst hq
  by_cases hx : (1 + (K : Int)) < (c.target : Int)
  · go_wp2_with fail
    go_quiet (fail)
    go_wp2_with fail
    go_end0
    exact ⟨rfl, HB.out hx _⟩
  · go_wp2_with fail
    go_quiet (fail)
    go_wp2_with fail
    go_end0
    exact ⟨rfl, HA.out hx _⟩

set_option maxRecDepth 100000 in
set_option maxHeartbeats 3200000 in
theorem number_4 (own : Nat → Nat) (a hd m : Nat) (c : Cf) (v : Int) (w : World) (h : WoAt own w a hd m c) (h1 : -9223372036854775808 ≤ v) (h2 : v ≤ 9223372036854775807) :
    Calls Try.prog 16 #[.pointer (some ⟨a, 0, none⟩), .int .i64 4, .int .i64 v] w fun e w' => e = .returned (.tuple #[]) ∧ WoPostC own w w' a hd (m + 1) := by
  obtain ⟨ax, p, b, h⟩ := h
  obtain ⟨K, HK⟩ : ∃ K, Bx (pickOf v 181 = K) := ⟨_, ⟨rfl⟩⟩
  have hK : K < 181 := by rw [← HK.out]; exact pickOf_lt v 181 (by omega)
  have HP : Bx _ := ⟨pick_any v 181 K w h1 h2 (by omega) (by omega) HK⟩
  obtain ⟨vF, vH, g, hb⟩ := h.bo
  have ca : w.cell? ⟨a, 7, none⟩ = some (.int .i64 c.length) := hb.cell 7 (by omega)
  have cb : w.cell? ⟨a, 6, none⟩ = some (.int .i64 c.memory) := hb.cell 6 (by omega)
  have hz : ∀ i, w.frozen? ⟨a, i, none⟩ = false := hb.frozen
  have hk := h.cok
  have hq1 := hk.l2
  have hq2 := hk.m2
  have hq3 := hk.i2
  have hq4 := hk.t2
  have e1 : (20 + (K : Int)) = ((20 + K : Nat) : Int) := by simp
  have e2 : (20 + (K : Int) + 64) = ((20 + K + 64 : Nat) : Int) := by simp
  have HA : Bx (¬ (c.memory : Int) < 20 + (K : Int) + 64 → ∀ n, WoPostC own w ((w.setCell ⟨a, 7, none⟩ (.int .i64 (20 + (K : Int)))).drewN n) a hd (m + 1)) := ⟨fun hx n => by
    rw [e1]
    exact h.cset1 7 _ n { c with length := 20 + K } (⟨hk.b1, hk.b2, hk.q1, hk.q2, hk.p1, hk.p2, by show 20 ≤ 20 + K; omega, by show 20 + K ≤ 200; omega, by show 20 + K + 64 ≤ c.memory; omega, hk.m2, hk.t1, hk.t2, hk.i2, hk.u1, hk.u2, hk.k16⟩) (fun vF vH g => all37 rfl rfl rfl rfl rfl rfl rfl rfl rfl rfl rfl rfl rfl rfl rfl rfl rfl rfl rfl rfl rfl rfl rfl rfl rfl rfl rfl rfl rfl rfl rfl rfl rfl rfl rfl rfl rfl )⟩
  have HB : Bx ((c.memory : Int) < 20 + (K : Int) + 64 → ∀ n, WoPostC own w (((w.setCell ⟨a, 7, none⟩ (.int .i64 (20 + (K : Int)))).drewN n).setCell ⟨a, 6, none⟩ (.int .i64 (20 + (K : Int) + 64))) a hd (m + 1)) := ⟨fun _ n => by
    rw [e2]
    try rw [e1]
    exact h.cset2 7 _ n { c with length := 20 + K } (fun vF vH g => all37 rfl rfl rfl rfl rfl rfl rfl rfl rfl rfl rfl rfl rfl rfl rfl rfl rfl rfl rfl rfl rfl rfl rfl rfl rfl rfl rfl rfl rfl rfl rfl rfl rfl rfl rfl rfl rfl ) 6 _ { c with length := 20 + K, memory := 20 + K + 64 } (⟨hk.b1, hk.b2, hk.q1, hk.q2, hk.p1, hk.p2, by show 20 ≤ 20 + K; omega, by show 20 + K ≤ 200; omega, Nat.le_refl _, by show 20 + K + 64 ≤ 65536; omega, hk.t1, hk.t2, hk.i2, hk.u1, hk.u2, hk.k16⟩) (fun vF vH g => all37 rfl rfl rfl rfl rfl rfl rfl rfl rfl rfl rfl rfl rfl rfl rfl rfl rfl rfl rfl rfl rfl rfl rfl rfl rfl rfl rfl rfl rfl rfl rfl rfl rfl rfl rfl rfl rfl )⟩
  clear h hb hk e1 e2
  go_enter Try.func16, Try.ntmps16
  go_wp2_with fail
  refine HP.out.mono ?_
  rintro e wz ⟨rfl, hq⟩
  subst hq
  by_cases hx : (c.memory : Int) < 20 + (K : Int) + 64
  · go_wp2_with fail
    go_quiet (fail)
    go_wp2_with fail
    go_end0
    exact ⟨rfl, HB.out hx _⟩
  · go_wp2_with fail
    go_quiet (fail)
    go_wp2_with fail
    go_end0
    exact ⟨rfl, HA.out hx _⟩

end Go.Proofs.Ytnkicbopebgppab

/-! A number of the configuration: its memory; whatever the number. -/
namespace Go.Proofs.Ytnkicbopebgppab
open Go.RowKit Fl

set_option maxRecDepth 100000 in
set_option maxHeartbeats 3200000 in
theorem number_3 (own : Nat → Nat) (a hd m : Nat) (c : Cf) (v : Int) (w : World) (h : WoAt own w a hd m c) (h1 : -9223372036854775808 ≤ v) (h2 : v ≤ 9223372036854775807) :
    Calls Try.prog 16 #[.pointer (some ⟨a, 0, none⟩), .int .i64 3, .int .i64 v] w fun e w' => e = .returned (.tuple #[]) ∧ WoPostC own w w' a hd (m + 1) := by
  obtain ⟨ax, p, b, h⟩ := h
  obtain ⟨K, HK⟩ : ∃ K, Bx (pickOf v 65272 = K) := ⟨_, ⟨rfl⟩⟩
  have hK : K < 65272 := by rw [← HK.out]; exact pickOf_lt v 65272 (by omega)
  have HP : Bx _ := ⟨fun wx => pick_any v 65272 K wx h1 h2 (by omega) (by omega) HK⟩
  obtain ⟨vF, vH, g, hb⟩ := h.bo
  have ca : w.cell? ⟨a, 6, none⟩ = some (.int .i64 c.memory) := hb.cell 6 (by omega)
  have cb : w.cell? ⟨a, 7, none⟩ = some (.int .i64 c.length) := hb.cell 7 (by omega)
  have hz : ∀ i, w.frozen? ⟨a, i, none⟩ = false := hb.frozen
  have hk := h.cok
  have hq1 := hk.l2
  have HN : Bx (WoPostC own w ((w.setCell ⟨a, 6, none⟩ (.int .i64 ((c.length : Int) + 64 + (K : Int)))).drew) a hd (m + 1)) := ⟨by
    have e : ((c.length : Int) + 64 + (K : Int)) = ((c.length + 64 + K : Nat) : Int) := by simp
    rw [e]
    obtain ⟨N1, K1⟩ := h.cset 6 (.int .i64 ((c.length + 64 + K : Nat) : Int)) { c with memory := c.length + 64 + K } ⟨hk.b1, hk.b2, hk.q1, hk.q2, hk.p1, hk.p2, hk.l1, hk.l2, by show c.length + 64 ≤ c.length + 64 + K; omega, by show c.length + 64 + K ≤ 65536; omega, hk.t1, hk.t2, hk.i2, hk.u1, hk.u2, hk.k16⟩ (fun vF vH g => all37 rfl rfl rfl rfl rfl rfl rfl rfl rfl rfl rfl rfl rfl rfl rfl rfl rfl rfl rfl rfl rfl rfl rfl rfl rfl rfl rfl rfl rfl rfl rfl rfl rfl rfl rfl rfl rfl )
    have k : Below (w.setCell ⟨a, 6, none⟩ (.int .i64 ((c.length + 64 + K : Nat) : Int))).heap.size (w.setCell ⟨a, 6, none⟩ (.int .i64 ((c.length + 64 + K : Nat) : Int))) (w.setCell ⟨a, 6, none⟩ (.int .i64 ((c.length + 64 + K : Nat) : Int))).drew := (Below.refl _ _).drew
    exact ⟨_, ⟨own, ⟨ax, p, b, (N1.below k).later (by omega)⟩, K1.trans (Fr.below k)⟩⟩⟩
  have ew : IntKind.i64.wrap (IntKind.i64.wrap ((c.length : Int) + 64) + (K : Int)) = (c.length : Int) + 64 + K := by rw [IntKind.wrap_i64, IntKind.wrap_i64]; omega
  have HEW : Bx _ := ⟨ew⟩
  clear h hb hk ew
  go_enter Try.func16, Try.ntmps16
  go_wp2_with fail
  go_region_with (go_at_call 15; refine (HP.out _).mono ?_; rintro e wz ⟨rfl, hq⟩; subst hq)
  all_goals go_wp2_with fail
  all_goals go_end0
  all_goals rw [HEW.out]
  all_goals exact ⟨rfl, HN.out⟩

/-- Whatever the number. -/
theorem number_any (own : Nat → Nat) (a hd m k : Nat) (c : Cf) (v : Int) (w : World) (hk : k < 9) (h : WoAt own w a hd m c) (h1 : -9223372036854775808 ≤ v) (h2 : v ≤ 9223372036854775807) :
    Calls Try.prog 16 #[.pointer (some ⟨a, 0, none⟩), .int .i64 k, .int .i64 v] w fun e w' => e = .returned (.tuple #[]) ∧ WoPostC own w w' a hd (m + 1) := by
  match k, hk with
  | 0, _ => exact number_0 own a hd m c v w h h1 h2
  | 1, _ => exact number_1 own a hd m c v w h h1 h2
  | 2, _ => exact number_2 own a hd m c v w h h1 h2
  | 3, _ => exact number_3 own a hd m c v w h h1 h2
  | 4, _ => exact number_4 own a hd m c v w h h1 h2
  | 5, _ => exact number_5 own a hd m c v w h h1 h2
  | 6, _ => exact number_6 own a hd m c v w h h1 h2
  | 7, _ => exact number_7 own a hd m c v w h h1 h2
  | 8, _ => exact number_8 own a hd m c v w h
  | k + 9, hk => exact absurd hk (by omega)

end Go.Proofs.Ytnkicbopebgppab

/-! Another key. -/
namespace Go.Proofs.Ytnkicbopebgppab
open Go.RowKit Fl

theorem WoIs.key {own : Nat → Nat} {w : World} {a hd m ax : Nat} {c : Cf} {p : Pt} {b : Bo} (h : WoIs own w a hd c m ax p b) (x : ByteArray) (hx : x.size = 16) : WoPostC own w (w.setCell ⟨a, 12, none⟩ (.string x)) a hd (m + 1) := by
  have hc := h.cok
  obtain ⟨N1, K1⟩ := h.cset 12 (.string x) { c with key := x } ⟨hc.b1, hc.b2, hc.q1, hc.q2, hc.p1, hc.p2, hc.l1, hc.l2, hc.m1, hc.m2, hc.t1, hc.t2, hc.i2, hc.u1, hc.u2, hx⟩ (fun vF vH g => all37 rfl rfl rfl rfl rfl rfl rfl rfl rfl rfl rfl rfl rfl rfl rfl rfl rfl rfl rfl rfl rfl rfl rfl rfl rfl rfl rfl rfl rfl rfl rfl rfl rfl rfl rfl rfl rfl )
  exact ⟨_, ⟨own, ⟨ax, p, b, N1.later (by omega)⟩, K1⟩⟩

theorem WoPostC.of {own : Nat → Nat} {w w' : World} {a hd m : Nat} {c : Cf} (h : WoPost own w w' a hd m c) : WoPostC own w w' a hd m := ⟨c, h⟩

theorem WoPostC.before {own : Nat → Nat} {w w1 w' : World} {a hd m : Nat} (k : Below w.heap.size w w1) (h : WoPostC own w1 w' a hd m) : WoPostC own w w' a hd m := by
  obtain ⟨c, h⟩ := h.ex
  exact ⟨c, WoPost.before k h⟩

end Go.Proofs.Ytnkicbopebgppab

/-! The configuration at the start. -/
namespace Go.Proofs.Ytnkicbopebgppab
open Go.RowKit Fl

def plainCf (k : ByteArray) : Cf := ⟨4, 60, 20, 4000, 60, 500, 10000, 1, true, k⟩

theorem plainCf_ok (k : ByteArray) (h : k.size = 16) : (plainCf k).ok := by
  refine ⟨?_, ?_, ?_, ?_, ?_, ?_, ?_, ?_, ?_, ?_, ?_, ?_, ?_, ?_, ?_, h⟩ <;> simp [plainCf]

set_option maxRecDepth 100000 in
set_option maxHeartbeats 3200000 in
theorem plain_any (w : World) :
    Calls Try.prog 9 #[] w fun e w' => (∃ k : ByteArray, k.size = 16 ∧ e = .returned (plainCf k).val) ∧ Below w.heap.size w w' := by
  have HF : Bx _ := ⟨fun wx => fill_any ⟨#[]⟩ 16 wx (by omega)⟩
  have HA : Bx _ := ⟨(Below.refl w.heap.size w).alloc (Nat.le_refl _) (Obj.cells #[.int .i64 0, .int .i64 0, .int .i64 0, .int .i64 0, .int .i64 0, .int .i64 0, .int .i64 0, .int .i64 0, .bool false, .string ⟨#[]⟩] 29)⟩
  go_enter Try.func9, Try.ntmps9
  go_wp2_with fail
  refine (HF.out _).mono ?_
  rintro e w1 ⟨k, rfl, hk, hb⟩
  have q0 : w1.cell? ⟨w.heap.size, 0, none⟩ = some (.int .i64 0) := (hb.cell (p := ⟨w.heap.size, 0, none⟩) (by simp)).trans (by go_simp)
  have q1 : w1.cell? ⟨w.heap.size, 1, none⟩ = some (.int .i64 0) := (hb.cell (p := ⟨w.heap.size, 1, none⟩) (by simp)).trans (by go_simp)
  have q2 : w1.cell? ⟨w.heap.size, 2, none⟩ = some (.int .i64 0) := (hb.cell (p := ⟨w.heap.size, 2, none⟩) (by simp)).trans (by go_simp)
  have q3 : w1.cell? ⟨w.heap.size, 3, none⟩ = some (.int .i64 0) := (hb.cell (p := ⟨w.heap.size, 3, none⟩) (by simp)).trans (by go_simp)
  have q4 : w1.cell? ⟨w.heap.size, 4, none⟩ = some (.int .i64 0) := (hb.cell (p := ⟨w.heap.size, 4, none⟩) (by simp)).trans (by go_simp)
  have q5 : w1.cell? ⟨w.heap.size, 5, none⟩ = some (.int .i64 0) := (hb.cell (p := ⟨w.heap.size, 5, none⟩) (by simp)).trans (by go_simp)
  have q6 : w1.cell? ⟨w.heap.size, 6, none⟩ = some (.int .i64 0) := (hb.cell (p := ⟨w.heap.size, 6, none⟩) (by simp)).trans (by go_simp)
  have q7 : w1.cell? ⟨w.heap.size, 7, none⟩ = some (.int .i64 0) := (hb.cell (p := ⟨w.heap.size, 7, none⟩) (by simp)).trans (by go_simp)
  have q8 : w1.cell? ⟨w.heap.size, 8, none⟩ = some (.bool false) := (hb.cell (p := ⟨w.heap.size, 8, none⟩) (by simp)).trans (by go_simp)
  have q9 : w1.cell? ⟨w.heap.size, 9, none⟩ = some (.string ⟨#[]⟩) := (hb.cell (p := ⟨w.heap.size, 9, none⟩) (by simp)).trans (by go_simp)
  have qz : ∀ i, w1.frozen? ⟨w.heap.size, i, none⟩ = false := fun i => (hb.frozen (p := ⟨w.heap.size, i, none⟩) (by simp)).trans (by go_simp)
  have HZ : Bx _ := ⟨And.intro hk (HA.out.trans (hb.mono (by simp)))⟩
  clear hk hb
  go_wp2_with fail
  have HB : Bx _ := ⟨((((((((((HZ.out.2.setCell (p := ⟨w.heap.size, 0, none⟩) (Nat.le_refl _) (.int .i64 4)).setCell (p := ⟨w.heap.size, 1, none⟩) (Nat.le_refl _) (.int .i64 60)).setCell (p := ⟨w.heap.size, 2, none⟩) (Nat.le_refl _) (.int .i64 20)).setCell (p := ⟨w.heap.size, 3, none⟩) (Nat.le_refl _) (.int .i64 4000)).setCell (p := ⟨w.heap.size, 4, none⟩) (Nat.le_refl _) (.int .i64 60)).setCell (p := ⟨w.heap.size, 5, none⟩) (Nat.le_refl _) (.int .i64 500)).setCell (p := ⟨w.heap.size, 6, none⟩) (Nat.le_refl _) (.int .i64 10000)).setCell (p := ⟨w.heap.size, 7, none⟩) (Nat.le_refl _) (.int .i64 1)).setCell (p := ⟨w.heap.size, 8, none⟩) (Nat.le_refl _) (.bool true)).setCell (p := ⟨w.heap.size, 9, none⟩) (Nat.le_refl _) (.string k))⟩
  refine bodyPost_ret (v := (plainCf k).val) ?_ rfl ⟨⟨k, HZ.out.1, rfl⟩, HB.out⟩
  simp only [plainCf, Cf.val]
  simp [results, Try.results9, go_sem]
  go_simp

end Go.Proofs.Ytnkicbopebgppab

/-! Another configuration: what was claimed holds no longer. -/
namespace Go.Proofs.Ytnkicbopebgppab
open Go.RowKit Fl

def Bo.freeTo (b : Bo) (k : Nat) : Bo := { b with f := (b.f.take k).map Fq.freed ++ b.f.drop k }

theorem freeTo_zero (b : Bo) : b.freeTo 0 = b := rfl
theorem freeTo_len (b : Bo) (k : Nat) : (b.freeTo k).f.length = b.f.length := by
  show ((b.f.take k).map Fq.freed ++ b.f.drop k).length = _
  rw [List.length_append, List.length_map, List.length_take, List.length_drop]
  omega
theorem freeTo_step (b : Bo) (k : Nat) (h : k < b.f.length) (x : Fq) : ({ b.freeTo k with f := ((b.freeTo k).f.set k x).set k (frAt (b.freeTo k).f k).freed } : Bo) = b.freeTo (k + 1) := by
  have h1 : ((b.f.take k).map Fq.freed).length = k := by rw [List.length_map, List.length_take]; omega
  have h2 : b.f.drop k = b.f[k] :: b.f.drop (k + 1) := (List.getElem_cons_drop (h := h)).symm
  have h3 : frAt (b.freeTo k).f k = b.f[k] := by
    show ((b.f.take k).map Fq.freed ++ b.f.drop k).getD k noFq = _
    simp only [List.getD]
    rw [List.getElem?_append_right (by omega), h1, Nat.sub_self, h2]
    rfl
  rw [List.set_set, h3]
  have h4 : (b.freeTo k).f.set k b.f[k].freed = (b.freeTo (k + 1)).f := by
    show ((b.f.take k).map Fq.freed ++ b.f.drop k).set k _ = (b.f.take (k + 1)).map Fq.freed ++ b.f.drop (k + 1)
    rw [List.set_append_right _ _ (by omega), h1, Nat.sub_self, h2, List.set_cons_zero, List.take_add_one, List.getElem?_eq_getElem h, Option.toList_some, List.map_append, List.append_assoc]
    rfl
  rw [h4]
  rfl
theorem freeTo_all (b : Bo) : (b.freeTo b.f.length).f = b.f.map Fq.freed := by
  show (b.f.take b.f.length).map Fq.freed ++ b.f.drop b.f.length = _
  simp

def Bo.offTo (b : Bo) (k : Nat) : Bo := { b with pairs := fun m => if m < k then { b.pairs m with on := false } else b.pairs m }
theorem offTo_zero (b : Bo) : b.offTo 0 = b := by
  have h1 : (fun m => if m < 0 then ({ b.pairs m with on := false } : Pr) else b.pairs m) = b.pairs := by funext i; rw [if_neg (by omega)]
  unfold Bo.offTo
  rw [h1]
theorem offTo_step (b : Bo) (k : Nat) : ({ b.offTo k with pairs := setAt (b.offTo k).pairs k { (b.offTo k).pairs k with on := false } } : Bo) = b.offTo (k + 1) := by
  have h1 : setAt (b.offTo k).pairs k { (b.offTo k).pairs k with on := false } = (b.offTo (k + 1)).pairs := by
    funext i
    show _ = if i < k + 1 then ({ b.pairs i with on := false } : Pr) else b.pairs i
    by_cases e : i = k
    · rw [e, setAt_same, if_pos (by omega)]
      show ({ (if k < k then ({ b.pairs k with on := false } : Pr) else b.pairs k) with on := false } : Pr) = _
      rw [if_neg (by omega)]
    · rw [setAt_other _ _ _ _ e]
      show (if i < k then ({ b.pairs i with on := false } : Pr) else b.pairs i) = _
      by_cases e2 : i < k
      · rw [if_pos e2, if_pos (by omega)]
      · rw [if_neg e2, if_neg (by omega)]
  rw [h1]
  rfl

def Bo.useTo (b : Bo) (k : Nat) : Bo := { b with used := fun i => if i < k then true else b.used i, turn := fun i => if i < k then 0 else b.turn i }
theorem useTo_zero (b : Bo) : b.useTo 0 = b := by
  have h1 : (fun i => if i < 0 then 0 else b.turn i) = b.turn := by funext i; rw [if_neg (by omega)]
  have h2 : (fun i => if i < 0 then true else b.used i) = b.used := by funext i; rw [if_neg (by omega)]
  unfold Bo.useTo
  rw [h1, h2]
theorem useTo_step (b : Bo) (k : Nat) : ({ b.useTo k with used := setAt (b.useTo k).used k true, turn := setAt (b.useTo k).turn k 0 } : Bo) = b.useTo (k + 1) := by
  have h1 : setAt (b.useTo k).turn k 0 = fun i => if i < k + 1 then 0 else b.turn i := by
    funext i
    by_cases e : i = k
    · rw [e, setAt_same, if_pos (by omega)]
    · rw [setAt_other _ _ _ _ e]
      show (if i < k then 0 else b.turn i) = _
      by_cases e2 : i < k
      · rw [if_pos e2, if_pos (by omega)]
      · rw [if_neg e2, if_neg (by omega)]
  have h2 : setAt (b.useTo k).used k true = fun i => if i < k + 1 then true else b.used i := by
    funext i
    by_cases e : i = k
    · rw [e, setAt_same, if_pos (by omega)]
    · rw [setAt_other _ _ _ _ e]
      show (if i < k then true else b.used i) = _
      by_cases e2 : i < k
      · rw [if_pos e2, if_pos (by omega)]
      · rw [if_neg e2, if_neg (by omega)]
  rw [h1, h2]
  rfl

section
variable {own own' : Nat → Nat} {w w' : World} {a hd : Nat} {c : Cf} {ax : Nat} {vF vH : Value} {g : Nat → Nat} {b : Bo}

/-- A store into a frame of the book. -/
theorem BoIs.fqSet {gf of cap : Nat} (h : BoIs own w a hd c ax (.slice (some ⟨gf, of, none⟩) b.f.length cap) vH g b) (id j : Nat) (u : Value) (f' : Fq) (hid : id < b.f.length) (hj : j < 6) (hf : f'.cells = (frAt b.f id).cells.set j u) :
    BoIs own (w.setCell ⟨gf, of + id * 6 + j, none⟩ u) a hd c ax (.slice (some ⟨gf, of, none⟩) b.f.length cap) vH g { b with f := b.f.set id f' } ∧ Fr BTag own own w (w.setCell ⟨gf, of + id * 6 + j, none⟩ u) := by
  have hs := h.f
  have htg := (Sl.at hs).1
  have h1 := Sl.store hs (id * 6 + j) u (by omega) trivial
  rw [← Nat.add_assoc] at h1
  have k : Fr (fun t => t = 10) own own w (w.setCell ⟨gf, of + id * 6 + j, none⟩ u) := (Fr.refl _ own w).setCell gf _ _ htg
  have e1 := fqCells_set b.f id j u f' hid hj hf
  refine ⟨⟨h.row.fr k (by show ¬ 2 = 10; omega), ?_, h.here.fr k (by show ¬ g 8 = 10; rcases h.th with e | e <;> rw [e] <;> omega), h.la.fr k (by show ¬ 12 = 10; omega), h.se.fr k (by show ¬ 13 = 10; omega), h.tu.fr k (by show ¬ 14 = 10; omega), h.us.fr k (by show ¬ 15 = 10; omega), h.si.fr k (by show ¬ 16 = 10; omega), h.le.fr k (by show ¬ 17 = 10; omega), h.ov.fr k (by show ¬ 18 = 10; omega), h.pa.fr k (by show ¬ 19 = 10; omega), h.th⟩, k.mono (fun t e => by rw [e]; exact ⟨by omega, by omega⟩)⟩
  show Sl anyC own _ 10 6 (.slice (some ⟨gf, of, none⟩) b.f.length cap) (b.f.set id f').length (fqCells (b.f.set id f'))
  rw [List.length_set, e1]
  exact h1

/-- Both claims of a frame are given up. -/
theorem BoIs.freeSet {gf of cap : Nat} (h : BoIs own w a hd c ax (.slice (some ⟨gf, of, none⟩) b.f.length cap) vH g b) (id : Nat) (hid : id < b.f.length) :
    BoIs own ((w.setCell ⟨gf, of + id * 6 + 4, none⟩ (.int .i64 (-1))).setCell ⟨gf, of + id * 6 + 5, none⟩ (.int .i64 (-1))) a hd c ax (.slice (some ⟨gf, of, none⟩) b.f.length cap) vH g { b with f := (b.f.set id { frAt b.f id with first := -1 }).set id (frAt b.f id).freed } ∧ Fr BTag own own w ((w.setCell ⟨gf, of + id * 6 + 4, none⟩ (.int .i64 (-1))).setCell ⟨gf, of + id * 6 + 5, none⟩ (.int .i64 (-1))) := by
  obtain ⟨h1, k1⟩ := h.fqSet id 4 (.int .i64 (-1)) { frAt b.f id with first := -1 } hid (by omega) rfl
  have el : (b.f.set id { frAt b.f id with first := -1 }).length = b.f.length := List.length_set
  have h1' : BoIs own (w.setCell ⟨gf, of + id * 6 + 4, none⟩ (.int .i64 (-1))) a hd c ax (.slice (some ⟨gf, of, none⟩) ({ b with f := b.f.set id { frAt b.f id with first := -1 } } : Bo).f.length cap) vH g { b with f := b.f.set id { frAt b.f id with first := -1 } } := by
    show BoIs own _ a hd c ax (.slice (some ⟨gf, of, none⟩) (b.f.set id { frAt b.f id with first := -1 }).length cap) vH g _
    rw [el]; exact h1
  obtain ⟨h2, k2⟩ := h1'.fqSet id 5 (.int .i64 (-1)) (frAt b.f id).freed (by show id < (b.f.set id { frAt b.f id with first := -1 }).length; rw [el]; exact hid) (by omega) (by
    show _ = (frAt (b.f.set id { frAt b.f id with first := -1 }) id).cells.set 5 _
    rw [frAt_set_same _ _ _ hid]; rfl)
  refine ⟨?_, k1.trans k2⟩
  have e : (({ b with f := b.f.set id { frAt b.f id with first := -1 } } : Bo).f.length) = b.f.length := el
  rw [e] at h2
  exact h2

theorem BoIs.onStep (h : BoIs own w a hd c ax vF vH g b) (j : Nat) (u : Value) (on' : Cf) (hb : on'.buckets = b.on.buckets) (hrow : ∀ i, i < 37 → woF hd c ax vF vH g { b with on := on' } i = if i = j then u else woF hd c ax vF vH g b i) :
    BoIs own (w.setCell ⟨a, j, none⟩ u) a hd c ax vF vH g { b with on := on' } ∧ Fr BTag own own w (w.setCell ⟨a, j, none⟩ u) :=
  ⟨h.set j u hrow hb h.f h.here rfl rfl rfl rfl rfl rfl rfl rfl, (Fr.refl _ own w).setCell a _ _ (by rw [h.row.tag]; exact ⟨by omega, by omega⟩)⟩

/-- Another configuration of as many buckets. -/
theorem BoIs.onSet (h : BoIs own w a hd c ax vF vH g b) (k : Cf) (hk : k.buckets = b.on.buckets) :
    BoIs own ((((((((((w.setCell ⟨a, 14, none⟩ (.int .i64 k.buckets)).setCell ⟨a, 15, none⟩ (.int .i64 k.quantum)).setCell ⟨a, 16, none⟩ (.int .i64 k.packets)).setCell ⟨a, 17, none⟩ (.int .i64 k.memory)).setCell ⟨a, 18, none⟩ (.int .i64 k.length)).setCell ⟨a, 19, none⟩ (.int .i64 k.target)).setCell ⟨a, 20, none⟩ (.int .i64 k.interval)).setCell ⟨a, 21, none⟩ (.int .i64 k.tau)).setCell ⟨a, 22, none⟩ (.bool k.ecn)).setCell ⟨a, 23, none⟩ (.string k.key)) a hd c ax vF vH g { b with on := k } ∧
    Fr BTag own own w ((((((((((w.setCell ⟨a, 14, none⟩ (.int .i64 k.buckets)).setCell ⟨a, 15, none⟩ (.int .i64 k.quantum)).setCell ⟨a, 16, none⟩ (.int .i64 k.packets)).setCell ⟨a, 17, none⟩ (.int .i64 k.memory)).setCell ⟨a, 18, none⟩ (.int .i64 k.length)).setCell ⟨a, 19, none⟩ (.int .i64 k.target)).setCell ⟨a, 20, none⟩ (.int .i64 k.interval)).setCell ⟨a, 21, none⟩ (.int .i64 k.tau)).setCell ⟨a, 22, none⟩ (.bool k.ecn)).setCell ⟨a, 23, none⟩ (.string k.key)) := by
  rw [hk]
  obtain ⟨N1, K1⟩ := h.onStep 14 (.int .i64 b.on.buckets) (b.on) rfl (all37 rfl rfl rfl rfl rfl rfl rfl rfl rfl rfl rfl rfl rfl rfl rfl rfl rfl rfl rfl rfl rfl rfl rfl rfl rfl rfl rfl rfl rfl rfl rfl rfl rfl rfl rfl rfl rfl)
  obtain ⟨N2, K2⟩ := N1.onStep 15 (.int .i64 k.quantum) ({ b.on with quantum := k.quantum }) rfl (all37 rfl rfl rfl rfl rfl rfl rfl rfl rfl rfl rfl rfl rfl rfl rfl rfl rfl rfl rfl rfl rfl rfl rfl rfl rfl rfl rfl rfl rfl rfl rfl rfl rfl rfl rfl rfl rfl)
  obtain ⟨N3, K3⟩ := N2.onStep 16 (.int .i64 k.packets) ({ b.on with quantum := k.quantum, packets := k.packets }) rfl (all37 rfl rfl rfl rfl rfl rfl rfl rfl rfl rfl rfl rfl rfl rfl rfl rfl rfl rfl rfl rfl rfl rfl rfl rfl rfl rfl rfl rfl rfl rfl rfl rfl rfl rfl rfl rfl rfl)
  obtain ⟨N4, K4⟩ := N3.onStep 17 (.int .i64 k.memory) ({ b.on with quantum := k.quantum, packets := k.packets, memory := k.memory }) rfl (all37 rfl rfl rfl rfl rfl rfl rfl rfl rfl rfl rfl rfl rfl rfl rfl rfl rfl rfl rfl rfl rfl rfl rfl rfl rfl rfl rfl rfl rfl rfl rfl rfl rfl rfl rfl rfl rfl)
  obtain ⟨N5, K5⟩ := N4.onStep 18 (.int .i64 k.length) ({ b.on with quantum := k.quantum, packets := k.packets, memory := k.memory, length := k.length }) rfl (all37 rfl rfl rfl rfl rfl rfl rfl rfl rfl rfl rfl rfl rfl rfl rfl rfl rfl rfl rfl rfl rfl rfl rfl rfl rfl rfl rfl rfl rfl rfl rfl rfl rfl rfl rfl rfl rfl)
  obtain ⟨N6, K6⟩ := N5.onStep 19 (.int .i64 k.target) ({ b.on with quantum := k.quantum, packets := k.packets, memory := k.memory, length := k.length, target := k.target }) rfl (all37 rfl rfl rfl rfl rfl rfl rfl rfl rfl rfl rfl rfl rfl rfl rfl rfl rfl rfl rfl rfl rfl rfl rfl rfl rfl rfl rfl rfl rfl rfl rfl rfl rfl rfl rfl rfl rfl)
  obtain ⟨N7, K7⟩ := N6.onStep 20 (.int .i64 k.interval) ({ b.on with quantum := k.quantum, packets := k.packets, memory := k.memory, length := k.length, target := k.target, interval := k.interval }) rfl (all37 rfl rfl rfl rfl rfl rfl rfl rfl rfl rfl rfl rfl rfl rfl rfl rfl rfl rfl rfl rfl rfl rfl rfl rfl rfl rfl rfl rfl rfl rfl rfl rfl rfl rfl rfl rfl rfl)
  obtain ⟨N8, K8⟩ := N7.onStep 21 (.int .i64 k.tau) ({ b.on with quantum := k.quantum, packets := k.packets, memory := k.memory, length := k.length, target := k.target, interval := k.interval, tau := k.tau }) rfl (all37 rfl rfl rfl rfl rfl rfl rfl rfl rfl rfl rfl rfl rfl rfl rfl rfl rfl rfl rfl rfl rfl rfl rfl rfl rfl rfl rfl rfl rfl rfl rfl rfl rfl rfl rfl rfl rfl)
  obtain ⟨N9, K9⟩ := N8.onStep 22 (.bool k.ecn) ({ b.on with quantum := k.quantum, packets := k.packets, memory := k.memory, length := k.length, target := k.target, interval := k.interval, tau := k.tau, ecn := k.ecn }) rfl (all37 rfl rfl rfl rfl rfl rfl rfl rfl rfl rfl rfl rfl rfl rfl rfl rfl rfl rfl rfl rfl rfl rfl rfl rfl rfl rfl rfl rfl rfl rfl rfl rfl rfl rfl rfl rfl rfl)
  obtain ⟨N10, K10⟩ := N9.onStep 23 (.string k.key) ({ b.on with quantum := k.quantum, packets := k.packets, memory := k.memory, length := k.length, target := k.target, interval := k.interval, tau := k.tau, ecn := k.ecn, key := k.key }) rfl (all37 rfl rfl rfl rfl rfl rfl rfl rfl rfl rfl rfl rfl rfl rfl rfl rfl rfl rfl rfl rfl rfl rfl rfl rfl rfl rfl rfl rfl rfl rfl rfl rfl rfl rfl rfl rfl rfl)
  have e : ∀ x : Cf, k.buckets = x.buckets → (⟨x.buckets, k.quantum, k.packets, k.memory, k.length, k.target, k.interval, k.tau, k.ecn, k.key⟩ : Cf) = k := fun x hx => by rw [← hx]
  exact ⟨N10.pairs_eq (congrArg (fun o => ({ b with on := o } : Bo)) (e b.on hk)), (((((((((K1.trans K2).trans K3).trans K4).trans K5).trans K6).trans K7).trans K8).trans K9).trans K10)⟩

/-- What is on the link was put there ahead of the change. -/
theorem BoIs.oldSet (h : BoIs own w a hd c ax vF vH g b) : BoIs own (w.setCell ⟨a, 27, none⟩ (.bool true)) a hd c ax vF vH g { b with old := true } ∧ Fr BTag own own w (w.setCell ⟨a, 27, none⟩ (.bool true)) := by
  refine ⟨h.set 27 (.bool true) ?_ rfl h.f h.here rfl rfl rfl rfl rfl rfl rfl rfl, (Fr.refl _ own w).setCell a _ _ (by rw [h.row.tag]; exact ⟨by omega, by omega⟩)⟩
  exact all37 rfl rfl rfl rfl rfl rfl rfl rfl rfl rfl rfl rfl rfl rfl rfl rfl rfl rfl rfl rfl rfl rfl rfl rfl rfl rfl rfl rfl rfl rfl rfl rfl rfl rfl rfl rfl rfl

/-- All of it together. -/
theorem BoIs.changed (h : BoIs own w a hd c ax vF vH g (((({ b.freeTo b.f.length with old := true } : Bo).offTo (b.on.buckets * b.on.buckets)).useTo b.on.buckets))) : BoIs own w a hd c ax vF vH g b.changes :=
  h.congr rfl (freeTo_all b).symm rfl rfl rfl rfl (fun _ _ => rfl) (fun _ _ => rfl) (fun _ hi => (if_pos hi).symm) (fun _ hi => (if_pos hi).symm) (fun _ _ => rfl) (fun _ _ => rfl) (fun _ _ => rfl) (fun _ hi => (if_pos hi).symm)

theorem BoIs.changedOn {k : Cf} (hk : k.buckets = b.on.buckets) (h : BoIs own w a hd c ax vF vH g ((((({ b.freeTo b.f.length with on := k, old := true } : Bo).offTo (b.on.buckets * b.on.buckets)).useTo b.on.buckets)))) : BoIs own w a hd c ax vF vH g { b.changes with on := k } :=
  h.congr rfl (freeTo_all b).symm rfl rfl rfl rfl (fun _ _ => rfl) (fun _ _ => rfl) (fun i hi => by have hi' : i < k.buckets := hi; exact (if_pos (by omega)).symm) (fun i hi => by have hi' : i < k.buckets := hi; exact (if_pos (by omega)).symm) (fun _ _ => rfl) (fun _ _ => rfl) (fun _ _ => rfl) (fun i hi => by have hi' : i < k.buckets * k.buckets := hi; rw [hk] at hi'; exact (if_pos hi').symm)
end

def cfL (k : Cf) : List Value := [.int .i64 k.buckets, .int .i64 k.quantum, .int .i64 k.packets, .int .i64 k.memory, .int .i64 k.length, .int .i64 k.target, .int .i64 k.interval, .int .i64 k.tau, .bool k.ecn, .string k.key]

theorem Box.cfg {own : Nat → Nat} {w : World} {o : Obj} (k : Cf) (ht : own w.heap.size = 0) (ho : o = Obj.cells (cfL k).toArray 29) : Box own (w.alloc o) w.heap.size (cfL k) := by
  subst ho
  refine ⟨ht, by simp, fun i v hi => ?_, fun i => ?_⟩
  · rw [World.cell?_alloc_at _ _ _ _ rfl]
    simpa using hi
  · exact World.frozen?_alloc_at _ _ _ _ rfl

/-- On the way through a change. -/
structure ChR (own : Nat → Nat) (w wr : World) (a hd : Nat) (c : Cf) (ax : Nat) (vF vH : Value) (g : Nat → Nat) (b : Bo) (p : Pt) (l : List Ev) (v : Value) (gc : Nat) (k : Cf) : Prop where
  bo : BoIs own wr a hd c ax vF vH g b
  pt : PtAt own wr 100 ax p
  sl : Sl evG own wr 50 5 v l.length (evCells l)
  bx : Box own wr gc (cfL k)
  fr : Fr BTag own own w wr

section
variable {own : Nat → Nat} {w wr wx : World} {a hd : Nat} {c : Cf} {ax : Nat} {vF vH : Value} {g : Nat → Nat} {b : Bo} {p : Pt} {l : List Ev} {v : Value} {gc : Nat} {k : Cf}
theorem ChR.book (h : ChR own w wr a hd c ax vF vH g b p l v gc k) (hb : p.c.buckets ≤ 16) {b' : Bo} {vF' : Value} (n : BoIs own wx a hd c ax vF' vH g b' ∧ Fr BTag own own wr wx) : ChR own w wx a hd c ax vF' vH g b' p l v gc k :=
  ⟨n.1, h.pt.fr hb n.2, h.sl.fr n.2 (by show ¬ (2 ≤ 50 ∧ 50 < 20); omega), h.bx.fr n.2 (by show ¬ (2 ≤ 0 ∧ 0 < 20); omega), h.fr.trans n.2⟩
theorem ChR.below (h : ChR own w wr a hd c ax vF vH g b p l v gc k) (hb : p.c.buckets ≤ 16) (n : Below wr.heap.size wr wx) : ChR own w wx a hd c ax vF vH g b p l v gc k :=
  h.book hb ⟨h.bo.below n, Fr.below n⟩
end

end Go.Proofs.Ytnkicbopebgppab

/-! Another configuration: the buckets are kept. -/
namespace Go.Proofs.Ytnkicbopebgppab
open Go.RowKit Fl

set_option maxRecDepth 100000 in
set_option maxHeartbeats 6400000 in
theorem changed_same (own : Nat → Nat) (a hd : Nat) (c : Cf) (ax : Nat) (p : Pt) (b : Bo) (l : List Ev) (v : Value) (k : Cf) (w : World) (h : BoAt own w a hd c ax b) (hp : PtAt own w 100 ax p) (hj : Junk own w) (hok : p.ok) (hon : k = p.c) (hbu : k.buckets = b.on.buckets) (hsl : Sl evG own w 50 5 v l.length (evCells l)) (hl : l.length ≤ 16777216) (hfl : b.f.length ≤ 16777216) (hkd : ∀ i (h : i < l.length), l[i].kind = 3) (hE : ∀ hd, EvsOk hd p.now ({ b.changes with on := k } : Bo).clears l) (hBd : ∀ i (h : i < l.length), EvB ((({ b.changes with on := k } : Bo).clears).events (l.take i)) l[i]) (hS : ∀ hd, StOk hd p ((({ b.changes with on := k } : Bo).clears).events l)) (hSB : StB ((({ b.changes with on := k } : Bo).clears).events l)) (hH : HonestIs) :
    Calls Try.prog 20 #[.pointer (some ⟨a, 0, none⟩), v, .int .i64 0, k.val, .bool true] w fun e w' => e = .returned (.tuple #[]) ∧ ∃ own', BoAt own' w' a hd c ax (((({ b.changes with on := k } : Bo).clears).events l).stands p.busy) ∧ Fr BTag own own' w w' := by
  obtain ⟨vF, vH, g, h⟩ := h
  have hb16 := hok.c.b2
  have hn : b.on.buckets ≤ 16 := by rw [← hbu, hon]; exact hb16
  obtain ⟨NN, HNN, hNN, hnn⟩ : ∃ NN : Nat, Bx (b.on.buckets * b.on.buckets = NN) ∧ NN ≤ 256 ∧ (b.on.buckets : Int) * (b.on.buckets : Nat) = NN := ⟨_, ⟨rfl⟩, Nat.mul_le_mul hn hn, by simp⟩
  obtain ⟨vb, vc, hv⟩ : ∃ vb k, v = .slice vb l.length k := by
    obtain ⟨_, h2⟩ := hsl
    rcases h2 with ⟨hv, hn⟩ | ⟨g, off, cap, hv, _⟩
    · exact ⟨none, 0, by rw [hv, hn]⟩
    · exact ⟨some ⟨g, off, none⟩, cap, hv⟩
  obtain ⟨fb, fc, hvF⟩ : ∃ vb k, vF = .slice vb b.f.length k := by
    obtain ⟨_, h2⟩ := h.f
    rcases h2 with ⟨hv, hn⟩ | ⟨g, off, cap, hv, _⟩
    · exact ⟨none, 0, by rw [hv, hn]⟩
    · exact ⟨some ⟨g, off, none⟩, cap, hv⟩
  subst hv hvF
  have hgc0 : own w.heap.size = 0 := hj _ (Nat.le_refl _)
  have HK0 : Bx (ChR own w (w.alloc (Obj.cells (cfL k).toArray 29)) a hd c ax (.slice fb b.f.length fc) vH g (b.freeTo 0) p l (.slice vb l.length vc) w.heap.size k) := ⟨by
    have hbe : Below w.heap.size w (w.alloc (Obj.cells (cfL k).toArray 29)) := (Below.refl _ _).alloc (Nat.le_refl _) _
    exact ⟨h.below hbe, hp.fr hb16 (Fr.below hbe), hsl.below hbe, Box.cfg k hgc0 rfl, Fr.below hbe⟩⟩
  have HJ : Bx _ := ⟨hj⟩
  have HE : Bx _ := ⟨hE⟩
  have HBD : Bx _ := ⟨hBd⟩
  have HS : Bx _ := ⟨hS⟩
  have HSB : Bx _ := ⟨hSB⟩
  have HH : Bx _ := ⟨hH⟩
  have HOK : Bx _ := ⟨hok⟩
  have HON : Bx _ := ⟨hon⟩
  have HKD : Bx _ := ⟨hkd⟩
  have HBU : Bx _ := ⟨hbu⟩
  clear h hp hsl hE hBd hS hSB hH hok hon hkd hbu hj hgc0
  simp only [Cf.val, cfL] at *
  go_enter Try.func20, Try.ntmps20
  go_wp2_with fail
  refine (needs_yes a _).mono ?_
  rintro e wz ⟨rfl, hz⟩
  subst hz
  obtain ⟨gc, Hgc⟩ : ∃ gc, Bx (w.heap.size = gc) := ⟨_, ⟨rfl⟩⟩
  rw [Hgc.out] at HK0 ⊢
  generalize w.alloc _ = w1 at *
  go_wp2_with fail
  go_loopg [11] b.f.length (fun r v11 wr => ∃ i : Nat, v11 = .int .i64 i ∧ i + r = b.f.length ∧ ChR own w wr a hd c ax (.slice fb b.f.length fc) vH g (b.freeTo i) p l (.slice vb l.length vc) gc k)
  case atStart => exact ⟨0, rfl, by omega, HK0.out⟩
  case round =>
    clear HK0
    obtain ⟨i, rfl, hi, hR⟩ := hrel
    have c24 : wr.cell? ⟨a, 24, none⟩ = some (.slice fb b.f.length fc) := hR.bo.cell 24 (by omega)
    by_cases hil : i < b.f.length
    · obtain ⟨r', rfl⟩ : ∃ r', gk = r' + 1 := ⟨gk - 1, by omega⟩
      have i1 : (i : Int) < b.f.length := by omega
      have hb1 := hR.bo
      have hlen := freeTo_len b i
      obtain ⟨gf, of, cap, hvv⟩ := Sl.some hb1.f (by omega)
      rw [hlen] at hvv
      injection hvv with hv1 _ hv3
      subst hv1 hv3
      have hb2 : BoIs own wr a hd c ax (.slice (some ⟨gf, of, none⟩) (b.freeTo i).f.length fc) vH g (b.freeTo i) := by rw [hlen]; exact hb1
      have hsl := hb2.f
      have hcap : b.f.length ≤ fc := by have := (Sl.at hsl).2.2.1; omega
      have f4 : wr.cell? ⟨gf, of + i * 6 + 4, none⟩ = some (.int .i64 (frAt (b.freeTo i).f i).first) := by
        have := (Sl.at hsl).2.2.2.1 (i * 6 + 4) _ (fqCells_get _ i 4 (by omega) (by omega))
        rw [← Nat.add_assoc] at this; exact this
      have f5 : wr.cell? ⟨gf, of + i * 6 + 5, none⟩ = some (.int .i64 (frAt (b.freeTo i).f i).soon) := by
        have := (Sl.at hsl).2.2.2.1 (i * 6 + 5) _ (fqCells_get _ i 5 (by omega) (by omega))
        rw [← Nat.add_assoc] at this; exact this
      have zf := (Sl.at hsl).2.2.2.2
      have tga := hb1.row.tag
      have tgf := (Sl.at hsl).1
      have n1 : ¬ a = gf := fun x => by rw [x, tgf] at tga; omega
      have n2 : ¬ gf = a := fun x => n1 x.symm
      obtain ⟨N1, K1⟩ := hb2.freeSet i (by omega)
      rw [hlen] at N1
      rw [freeTo_step b i hil] at N1
      have HN : Bx _ := ⟨hR.book hb16 (And.intro N1 K1)⟩
      clear hR hb1 hb2 hsl N1 K1 tga tgf hlen
      go_wp2_with fail
      go_roundg r'
      case rel => exact ⟨i + 1, by go_num, by omega, HN.out⟩
      case measure => omega
    · have i1 : ¬ (i : Int) < b.f.length := by omega
      have hii : i = b.f.length := by omega
      rw [hii] at hR
      have HR : Bx _ := ⟨hR⟩
      clear hR hii
      go_wp2_with fail
      clear c24
      go_loopg [12] l.length (fun r v12 wr => ∃ i : Nat, v12 = .int .i64 i ∧ i + r = l.length ∧ ChR own w wr a hd c ax (.slice fb b.f.length fc) vH g (b.freeTo b.f.length) p l (.slice vb l.length vc) gc k)
      case atStart => exact ⟨0, rfl, by omega, HR.out⟩
      case round =>
        clear HR i1 hi
        obtain ⟨i, rfl, hi, hR⟩ := hrel
        by_cases hil : i < l.length
        · obtain ⟨r', rfl⟩ : ∃ r', gk = r' + 1 := ⟨gk - 1, by omega⟩
          have i1 : (i : Int) < l.length := by omega
          obtain ⟨ge, off, cap, hvv⟩ := Sl.some hR.sl (by omega)
          injection hvv with hv1 _ hv3
          subst hv1 hv3
          have hcap : l.length ≤ vc := (Sl.at hR.sl).2.2.1
          have e1 := (evAt_of l hR.sl i hil).e1
          rw [HKD.out i hil] at e1
          have HR : Bx _ := ⟨hR⟩
          clear hR
          go_wp2_with fail
          refine (is_yes a _ _).mono ?_
          rintro e wy ⟨rfl, hy⟩
          subst hy
          go_wp2_with fail
          go_roundg r'
          case rel => exact ⟨i + 1, by go_num, by omega, HR.out⟩
          case measure => omega
        · have i1 : ¬ (i : Int) < l.length := by omega
          have hB := hR.bo
          have C14 : ∀ j, j < 10 → wr.cell? ⟨a, 14 + j, none⟩ = some (cfF b.on j) := fun j hj => (hB.cell (14 + j) (by omega)).trans (by
            match j, hj with | 0, _ => rfl | 1, _ => rfl | 2, _ => rfl | 3, _ => rfl | 4, _ => rfl | 5, _ => rfl | 6, _ => rfl | 7, _ => rfl | 8, _ => rfl | 9, _ => rfl)
          have c14 : wr.cell? ⟨a, 14, none⟩ = some (.int .i64 b.on.buckets) := C14 0 (by omega)
          have c15 : wr.cell? ⟨a, 15, none⟩ = some (.int .i64 b.on.quantum) := C14 1 (by omega)
          have c16 : wr.cell? ⟨a, 16, none⟩ = some (.int .i64 b.on.packets) := C14 2 (by omega)
          have c17 : wr.cell? ⟨a, 17, none⟩ = some (.int .i64 b.on.memory) := C14 3 (by omega)
          have c18 : wr.cell? ⟨a, 18, none⟩ = some (.int .i64 b.on.length) := C14 4 (by omega)
          have c19 : wr.cell? ⟨a, 19, none⟩ = some (.int .i64 b.on.target) := C14 5 (by omega)
          have c20 : wr.cell? ⟨a, 20, none⟩ = some (.int .i64 b.on.interval) := C14 6 (by omega)
          have c21 : wr.cell? ⟨a, 21, none⟩ = some (.int .i64 b.on.tau) := C14 7 (by omega)
          have c22 : wr.cell? ⟨a, 22, none⟩ = some (.bool b.on.ecn) := C14 8 (by omega)
          have c23 : wr.cell? ⟨a, 23, none⟩ = some (.string b.on.key) := C14 9 (by omega)
          have HB0 : Bx (Box own (wr.alloc (Obj.cells (cfL b.on).toArray 29)) wr.heap.size (cfL b.on)) := ⟨Box.cfg b.on (hR.fr.junk HJ.out _ (Nat.le_refl _)) rfl⟩
          have HR1 : Bx _ := ⟨hR.below hb16 ((Below.refl _ _).alloc (Nat.le_refl _) (Obj.cells (cfL b.on).toArray 29))⟩
          clear hR hB C14
          go_upto_region 13 with fail
          obtain ⟨gw, Hgw⟩ : ∃ gw, Bx (wr.heap.size = gw) := ⟨_, ⟨rfl⟩⟩
          rw [Hgw.out] at HB0 ⊢
          simp only [cfL] at HB0 HR1
          clear c14 c15 c16 c17 c18 c19 c20 c21 c22 c23
          generalize wr.alloc _ = w3 at *
          have hB := HR1.out.bo
          have C14 : ∀ j, j < 10 → w3.cell? ⟨a, 14 + j, none⟩ = some (cfF b.on j) := fun j hj => (hB.cell (14 + j) (by omega)).trans (by
            match j, hj with | 0, _ => rfl | 1, _ => rfl | 2, _ => rfl | 3, _ => rfl | 4, _ => rfl | 5, _ => rfl | 6, _ => rfl | 7, _ => rfl | 8, _ => rfl | 9, _ => rfl)
          have c14 : w3.cell? ⟨a, 14, none⟩ = some (.int .i64 b.on.buckets) := C14 0 (by omega)
          have c15 : w3.cell? ⟨a, 15, none⟩ = some (.int .i64 b.on.quantum) := C14 1 (by omega)
          have c16 : w3.cell? ⟨a, 16, none⟩ = some (.int .i64 b.on.packets) := C14 2 (by omega)
          have c17 : w3.cell? ⟨a, 17, none⟩ = some (.int .i64 b.on.memory) := C14 3 (by omega)
          have c18 : w3.cell? ⟨a, 18, none⟩ = some (.int .i64 b.on.length) := C14 4 (by omega)
          have c19 : w3.cell? ⟨a, 19, none⟩ = some (.int .i64 b.on.target) := C14 5 (by omega)
          have c20 : w3.cell? ⟨a, 20, none⟩ = some (.int .i64 b.on.interval) := C14 6 (by omega)
          have c21 : w3.cell? ⟨a, 21, none⟩ = some (.int .i64 b.on.tau) := C14 7 (by omega)
          have c22 : w3.cell? ⟨a, 22, none⟩ = some (.bool b.on.ecn) := C14 8 (by omega)
          have c23 : w3.cell? ⟨a, 23, none⟩ = some (.string b.on.key) := C14 9 (by omega)
          have k0 : w3.cell? ⟨gc, 0, none⟩ = some (.int .i64 k.buckets) := HR1.out.bx.cells 0 _ rfl
          have k1 : w3.cell? ⟨gc, 1, none⟩ = some (.int .i64 k.quantum) := HR1.out.bx.cells 1 _ rfl
          have k2 : w3.cell? ⟨gc, 2, none⟩ = some (.int .i64 k.packets) := HR1.out.bx.cells 2 _ rfl
          have k3 : w3.cell? ⟨gc, 3, none⟩ = some (.int .i64 k.memory) := HR1.out.bx.cells 3 _ rfl
          have k4 : w3.cell? ⟨gc, 4, none⟩ = some (.int .i64 k.length) := HR1.out.bx.cells 4 _ rfl
          have k5 : w3.cell? ⟨gc, 5, none⟩ = some (.int .i64 k.target) := HR1.out.bx.cells 5 _ rfl
          have k6 : w3.cell? ⟨gc, 6, none⟩ = some (.int .i64 k.interval) := HR1.out.bx.cells 6 _ rfl
          have k7 : w3.cell? ⟨gc, 7, none⟩ = some (.int .i64 k.tau) := HR1.out.bx.cells 7 _ rfl
          have k8 : w3.cell? ⟨gc, 8, none⟩ = some (.bool k.ecn) := HR1.out.bx.cells 8 _ rfl
          have k9 : w3.cell? ⟨gc, 9, none⟩ = some (.string k.key) := HR1.out.bx.cells 9 _ rfl
          have tga := hB.row.tag; have tgc := HR1.out.bx.tag
          have n1 : ¬ a = gc := fun x => by rw [x, tgc] at tga; omega
          have n2 : ¬ gc = a := fun x => n1 x.symm
          clear tga tgc
          have c27 : w3.cell? ⟨a, 27, none⟩ = some (.bool b.old) := hB.cell 27 (by omega)
          have za := hB.frozen
          obtain ⟨N1, K1⟩ := hB.onSet k HBU.out
          obtain ⟨N2, K2⟩ := N1.oldSet
          have HBw : Bx _ := ⟨(HB0.out.fr K1 (by show ¬ (2 ≤ 0 ∧ 0 < 20); omega)).fr K2 (by show ¬ (2 ≤ 0 ∧ 0 < 20); omega)⟩
          have HR2 : Bx (ChR own w _ a hd c ax (.slice fb b.f.length fc) vH g ((({ b.freeTo b.f.length with on := k, old := true } : Bo)).offTo 0) p l (.slice vb l.length vc) gc k) := ⟨by rw [offTo_zero]; exact HR1.out.book hb16 (And.intro N2 (K1.trans K2))⟩
          clear N1 N2 K1 K2 hB C14 HR1 HB0
          go_upto_region 16 with fail
          clear c27 za n1 n2 c14 c15 c16 c17 c18 c19 c20 c21 c22 c23 k0 k1 k2 k3 k4 k5 k6 k7 k8 k9
          generalize World.setCell _ ⟨a, 27, none⟩ _ = w4 at *
          go_wp2_with fail
          go_loopg [14] NN (fun r v14 wr => ∃ i : Nat, v14 = .int .i64 i ∧ i + r = NN ∧ Box own wr gw [.int .i64 b.on.buckets, .int .i64 b.on.quantum, .int .i64 b.on.packets, .int .i64 b.on.memory, .int .i64 b.on.length, .int .i64 b.on.target, .int .i64 b.on.interval, .int .i64 b.on.tau, .bool b.on.ecn, .string b.on.key] ∧ ChR own w wr a hd c ax (.slice fb b.f.length fc) vH g (({ b.freeTo b.f.length with on := k, old := true } : Bo).offTo i) p l (.slice vb l.length vc) gc k)
          case atStart => exact ⟨0, rfl, by omega, HBw.out, HR2.out⟩
          case round =>
            clear HBw HR2 i1 hi
            obtain ⟨i, rfl, hi, hW, hR⟩ := hrel
            have hB := hR.bo
            have c36 : wr.cell? ⟨a, 36, none⟩ = some (.slice (some ⟨g 7, 0, none⟩) (k.buckets * k.buckets) (k.buckets * k.buckets)) := hB.cell 36 (by omega)
            rw [HBU.out, HNN.out] at c36
            by_cases hil : i < NN
            · obtain ⟨r', rfl⟩ : ∃ r', gk = r' + 1 := ⟨gk - 1, by omega⟩
              have i1 : (i : Int) < NN := by omega
              have pa : wr.cell? ⟨g 7, i * 3, none⟩ = some (.bool ((({ b.freeTo b.f.length with on := k, old := true } : Bo).offTo i).pairs i).on) := by
                have hh : i * 3 < k.buckets * k.buckets * 3 := by rw [HBU.out, HNN.out]; omega
                have := hB.pa.row.cell hh
                rw [(prF_at _ i).1] at this
                exact this
              have z7 := hB.pa.row.frozen
              have tga := hB.row.tag; have tg7 := hB.pa.tag
              have n1 : ¬ a = g 7 := fun x => by rw [← x, tga] at tg7; omega
              have n2 : ¬ g 7 = a := fun x => n1 x.symm
              obtain ⟨N1, K1⟩ := hB.paOn i false
              rw [offTo_step] at N1
              have HN : Bx _ := ⟨And.intro (hW.fr K1 (by show ¬ (2 ≤ 0 ∧ 0 < 20); omega)) (hR.book hb16 (And.intro N1 K1))⟩
              clear hW hR hB N1 K1 tga tg7
              go_wp2_with fail
              go_roundg r'
              case rel => exact ⟨i + 1, by go_num, by omega, HN.out.1, HN.out.2⟩
              case measure => omega
            · have i1 : ¬ (i : Int) < NN := by omega
              have hii : i = NN := by omega
              rw [hii] at hR
              have HR : Bx (ChR own w wr a hd c ax (.slice fb b.f.length fc) vH g ((({ b.freeTo b.f.length with on := k, old := true } : Bo).offTo NN).useTo 0) p l (.slice vb l.length vc) gc k) := ⟨by rw [useTo_zero]; exact hR⟩
              have HW : Bx _ := ⟨hW⟩
              clear hR hW hB hii
              go_wp2_with fail
              clear c36
              go_loopg [15] b.on.buckets (fun r v15 wr => ∃ i : Nat, v15 = .int .i64 i ∧ i + r = b.on.buckets ∧ Box own wr gw [.int .i64 b.on.buckets, .int .i64 b.on.quantum, .int .i64 b.on.packets, .int .i64 b.on.memory, .int .i64 b.on.length, .int .i64 b.on.target, .int .i64 b.on.interval, .int .i64 b.on.tau, .bool b.on.ecn, .string b.on.key] ∧ ChR own w wr a hd c ax (.slice fb b.f.length fc) vH g ((({ b.freeTo b.f.length with on := k, old := true } : Bo).offTo NN).useTo i) p l (.slice vb l.length vc) gc k)
              case atStart => exact ⟨0, rfl, by omega, HW.out, HR.out⟩
              case round =>
                clear HR HW i1 hi
                obtain ⟨i, rfl, hi, hW, hR⟩ := hrel
                have hB := hR.bo
                have w0 : wr.cell? ⟨gw, 0, none⟩ = some (.int .i64 b.on.buckets) := hW.cells 0 _ rfl
                by_cases hil : i < b.on.buckets
                · obtain ⟨r', rfl⟩ : ∃ r', gk = r' + 1 := ⟨gk - 1, by omega⟩
                  have i1 : (i : Int) < b.on.buckets := by omega
                  have c31 : wr.cell? ⟨a, 31, none⟩ = some (.slice (some ⟨g 2, 0, none⟩) k.buckets k.buckets) := hB.cell 31 (by omega)
                  have c32 : wr.cell? ⟨a, 32, none⟩ = some (.slice (some ⟨g 3, 0, none⟩) k.buckets k.buckets) := hB.cell 32 (by omega)
                  have tu := hB.tu.row.cell (i := i) (show i < k.buckets by rw [HBU.out]; exact hil)
                  have us := hB.us.row.cell (i := i) (show i < k.buckets by rw [HBU.out]; exact hil)
                  rw [HBU.out] at c31 c32
                  have z2 := hB.tu.row.frozen
                  have z3 := hB.us.row.frozen
                  have tga := hB.row.tag; have tg2 := hB.tu.tag; have tg3 := hB.us.tag
                  have n1 : ¬ a = g 2 := fun x => by rw [← x, tga] at tg2; omega
                  have n2 : ¬ g 2 = a := fun x => n1 x.symm
                  have n3 : ¬ a = g 3 := fun x => by rw [← x, tga] at tg3; omega
                  have n4 : ¬ g 3 = a := fun x => n3 x.symm
                  have n5 : ¬ g 2 = g 3 := fun x => by rw [x, tg3] at tg2; omega
                  have n6 : ¬ g 3 = g 2 := fun x => n5 x.symm
                  obtain ⟨N1, K1⟩ := hB.usSet i true
                  obtain ⟨N2, K2⟩ := N1.tuSet i 0
                  have N3 := N2.pairs_eq (useTo_step (({ b.freeTo b.f.length with on := k, old := true } : Bo).offTo NN) i)
                  have HN : Bx _ := ⟨And.intro (hW.fr (K1.trans K2) (by show ¬ (2 ≤ 0 ∧ 0 < 20); omega)) (hR.book hb16 (And.intro N3 (K1.trans K2)))⟩
                  clear hW hR hB N1 N2 N3 K1 K2 tga tg2 tg3
                  go_wp2_with fail
                  go_roundg r'
                  case rel => exact ⟨i + 1, by go_num, by omega, HN.out.1, HN.out.2⟩
                  case measure => omega
                · have i1 : ¬ (i : Int) < b.on.buckets := by omega
                  have hii : i = b.on.buckets := by omega
                  rw [hii] at hR
                  have HB : Bx (BoIs own wr a hd c ax (.slice fb b.f.length fc) vH g ({ b.changes with on := k } : Bo)) := ⟨by
                    have h1 := hR.bo
                    rw [← HNN.out] at h1
                    exact h1.changedOn HBU.out⟩
                  have HR : Bx _ := ⟨hR⟩
                  clear hR hW hB hii
                  go_wp2_with fail
                  refine (happened_any own a hd c ax p ({ b.changes with on := k } : Bo) l (.slice vb l.length vc) _ ⟨_, _, _, HB.out⟩ HR.out.pt HOK.out HON.out HR.out.sl hl HE.out HBD.out HS.out HSB.out HH.out).mono ?_
                  rintro e w9 ⟨rfl, own9, hb9, hf9⟩
                  have HZ : Bx (BoAt own9 w9 a hd c ax (((({ b.changes with on := k } : Bo).clears).events l).stands p.busy) ∧ Fr BTag own own9 w w9) := ⟨hb9, HR.out.fr.trans hf9⟩
                  clear hb9 hf9 HR HB w0
                  go_wp2_with fail
                  refine bodyPost_ret (v := .tuple #[]) (by simp [results, Try.results20, go_sem]) rfl ⟨rfl, own9, HZ.out.1, HZ.out.2⟩

end Go.Proofs.Ytnkicbopebgppab
