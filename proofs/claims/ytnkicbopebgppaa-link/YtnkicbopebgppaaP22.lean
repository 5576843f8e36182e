import Derived.Test.YtnkicbopebgppaaP20
import Derived.Test.YtnkicbopebgppaaP21
import Derived.Test.YtnkicbopebgppaaP10
/-! One step of the script: the changes. -/
namespace Go.Proofs.Ytnkicbopebgppaa
open Go.RowKit Fl

/-- Behind the port's answer. -/
structure CfPost (own : Nat → Nat) (w w' : World) (a hd : Nat) (c : Cf) (ax : Nat) (p : Pt) (b : Bo) (p' : Pt) (L : List Ev → Prop) (v : Value) : Prop where
  ex : ∃ own' l, L l ∧ BoAt own' w' a hd c ax b ∧ PtAt own' w' 100 ax p' ∧ Sl evG own' w' 50 5 v l.length (evCells l) ∧ Junk own' w' ∧ Fr WTag own own' w w'

theorem CfPost.of {own own' : Nat → Nat} {w w' : World} {a hd m : Nat} {c : Cf} {ax : Nat} {p : Pt} {b : Bo} {p' : Pt} {L : List Ev → Prop} {v : Value} (h : WoIs own w a hd c m ax p b) (l : List Ev) (hl : L l) (h1 : PtAt own' w' 100 ax p') (h2 : Sl evG own' w' 50 5 v l.length (evCells l)) (k : Fr (PTag 100 50) own own' w w') : CfPost own w w' a hd c ax p b p' L v :=
  ⟨own', l, hl, h.bo.fr k (fun t ht => by show ¬ ((100 ≤ t ∧ t < 100 + 20) ∨ t = 1 ∨ t = 50); have := ht.1; have := ht.2; omega), h1, h2, k.junk h.jk, k.mono (fun t e => by show t ≠ 0; rcases e with e | e | e <;> omega)⟩

theorem CfPost.below {own : Nat → Nat} {w w1 w' : World} {a hd : Nat} {c : Cf} {ax : Nat} {p : Pt} {b : Bo} {p' : Pt} {L : List Ev → Prop} {v : Value} (k : Below w.heap.size w w1) (h : CfPost own w1 w' a hd c ax p b p' L v) : CfPost own w w' a hd c ax p b p' L v := by
  obtain ⟨o, l, h1, h2, h3, h4, h5, h6⟩ := h.ex
  exact ⟨o, l, h1, h2, h3, h4, h5, (Fr.below k).trans h6⟩

theorem CfPost.drewN {own : Nat → Nat} {w w' : World} {a hd : Nat} {c : Cf} {ax : Nat} {p : Pt} {b : Bo} {p' : Pt} {L : List Ev → Prop} {v : Value} (hb : p'.c.buckets ≤ 16) (n : Nat) (h : CfPost own w w' a hd c ax p b p' L v) : CfPost own w (w'.drewN n) a hd c ax p b p' L v := by
  obtain ⟨o, l, h1, h2, h3, h4, h5, h6⟩ := h.ex
  have k : Below w'.heap.size w' (w'.drewN n) := (Below.refl _ _).drewN n
  exact ⟨o, l, h1, h2.below k, h3.fr hb (Fr.below k), h4.below k, (Fr.below (T := WTag) k).junk h5, h6.trans (Fr.below k)⟩

/-- The step ends. -/
theorem wo_end {own own1 own2 : Nat → Nat} {w w1 w2 : World} {a hd m : Nat} {c : Cf} {ax : Nat} {p' : Pt} {B : Bo} (hb : p'.c.buckets ≤ 16) (h1 : PtAt own1 w1 100 ax p') (h2 : Junk own1 w1) (h3 : Fr WTag own own1 w w1) (h4 : BoAt own2 w2 a hd c ax B) (h5 : Fr BTag own1 own2 w1 w2) (hc : c.ok) (hj : ∀ hd, JB hd p' B) (hd' : BdB (200 * p'.done.length) B) (hi : p'.ids ≤ m) : WoPostC own w w2 a hd (m + 1) :=
  ⟨c, ⟨own2, ⟨ax, p', B, ⟨h4, h1.fr hb h5, h5.junk h2, hc, hj, hd', by omega⟩⟩, h3.trans (h5.mono (fun t ht => by show t ≠ 0; have := ht.1; omega))⟩⟩

set_option maxRecDepth 100000 in
set_option maxHeartbeats 3200000 in
theorem step_set (own : Nat → Nat) (a hd m : Nat) (c : Cf) (A B C : Int) (s : ByteArray) (w : World) (h : WoAt own w a hd m c) (hm : m < 16777216) (hH : HonestIs) :
    Calls Try.prog 12 #[.pointer (some ⟨a, 0, none⟩), .agg #[.int .i64 6, .int .i64 A, .int .i64 B, .int .i64 C, .string s]] w fun e w' => e = .returned (.tuple #[]) ∧ WoPostC own w w' a hd (m + 1) := by
  obtain ⟨ax, p, b, h⟩ := h
  have hbe : Below w.heap.size w (w.alloc (Obj.cells #[.int .i64 6, .int .i64 A, .int .i64 B, .int .i64 C, .string s] 27)) := (Below.refl _ _).alloc (Nat.le_refl _) _
  have HB : Bx _ := ⟨hbe⟩
  have H1 : Bx _ := ⟨h.below hbe⟩
  have HO : Bx (own w.heap.size = 0) := ⟨h.jk _ (Nat.le_refl _)⟩
  have HL : Bx (w.heap.size < (w.alloc (Obj.cells #[.int .i64 6, .int .i64 A, .int .i64 B, .int .i64 C, .string s] 27)).heap.size) := ⟨by simp⟩
  have BX : ∀ i u, #[Value.int .i64 6, .int .i64 A, .int .i64 B, .int .i64 C, .string s][i]? = some u → (w.alloc (Obj.cells #[.int .i64 6, .int .i64 A, .int .i64 B, .int .i64 C, .string s] 27)).cell? ⟨w.heap.size, i, none⟩ = some u := by
    intro i u hu
    rw [World.cell?_alloc_at _ _ _ _ rfl]
    exact hu
  have b0 := BX 0 _ rfl
  have b1 := BX 1 _ rfl
  have b2 := BX 2 _ rfl
  have b3 := BX 3 _ rfl
  have b4 := BX 4 _ rfl
  obtain ⟨gb, Hgb⟩ : ∃ gb, Bx (w.heap.size = gb) := ⟨_, ⟨rfl⟩⟩
  have HHO : Bx _ := ⟨hH⟩
  clear hH
  have hon : b.on = p.c := (h.jb 0).j.jq.on
  have hids := h.ids
  obtain ⟨p', HP⟩ : ∃ p', Bx (p.configure c = p') := ⟨_, ⟨rfl⟩⟩
  have hok' : p'.ok ∧ p'.c = c := by
    have := p.configure_ok (h.jb 0).ok c h.cok
    rw [HP.out] at this
    exact ⟨this.1, this.2.2.1⟩
  have HOK : Bx _ := ⟨hok'⟩
  have hb16 : p'.c.buckets ≤ 16 := hok'.1.c.b2
  have HCF : Bx (∀ wx, Below (w.alloc (Obj.cells #[.int .i64 6, .int .i64 A, .int .i64 B, .int .i64 C, .string s] 27)).heap.size (w.alloc (Obj.cells #[.int .i64 6, .int .i64 A, .int .i64 B, .int .i64 C, .string s] 27)) wx → Calls Try.prog 20 #[.pointer (some ⟨ax, 0, none⟩), c.val] wx fun e w' => ∃ v', e = .returned (.tuple #[v', .int .i64 0]) ∧ CfPost own (w.alloc (Obj.cells #[.int .i64 6, .int .i64 A, .int .i64 B, .int .i64 C, .string s] 27)) w' a hd c ax p b p' (fun l => p'.done = p.done ++ l) v') := ⟨fun wx k => by
    have hx := H1.out.below k
    refine (pconfigure_any own 100 50 ax p c wx hx.pt ⟨by omega, by omega, by omega⟩ hx.jk (hx.jb 0).ok (by omega) hx.cok p' HP).mono ?_
    rintro e w2 ⟨v', he, hpo⟩
    obtain ⟨own1, l, hd1, hA1, hS1, _, hF1⟩ := hpo.ex
    simp only [List.nil_append] at hS1
    exact ⟨v', he, CfPost.below k (CfPost.of hx l hd1 hA1 hS1 hF1)⟩⟩
  have HON : Bx _ := ⟨hon⟩
  clear hon hok'
  clear h hbe BX
  go_enter Try.func12, Try.ntmps12
  go_upto_region 1 with fail
  rw [Hgb.out] at b0 b1 b2 b3 b4 HO HL ⊢
  generalize w.alloc (Obj.cells #[.int .i64 6, .int .i64 A, .int .i64 B, .int .i64 C, .string s] 27) = w1 at *
  have HOFF : Bx (∀ (own2 : Nat → Nat) (wx : World), BoAt own2 wx a hd c ax b → (∀ j, j < 10 → wx.cell? ⟨a, 3 + j, none⟩ = some (cfF c j)) ∧ (∀ j, j < 10 → wx.cell? ⟨a, 14 + j, none⟩ = some (cfF p.c j))) := ⟨fun own2 wx hbo => by
    obtain ⟨vF, vH, g, hbo⟩ := hbo
    rw [← HON.out]
    refine ⟨fun j hj => (hbo.cell (3 + j) (by omega)).trans ?_, fun j hj => (hbo.cell (14 + j) (by omega)).trans ?_⟩
    · match j, hj with | 0, _ => rfl | 1, _ => rfl | 2, _ => rfl | 3, _ => rfl | 4, _ => rfl | 5, _ => rfl | 6, _ => rfl | 7, _ => rfl | 8, _ => rfl | 9, _ => rfl
    · match j, hj with | 0, _ => rfl | 1, _ => rfl | 2, _ => rfl | 3, _ => rfl | 4, _ => rfl | 5, _ => rfl | 6, _ => rfl | 7, _ => rfl | 8, _ => rfl | 9, _ => rfl⟩
  obtain ⟨C3, C14⟩ := HOFF.out _ _ H1.out.bo
  have c13 := H1.out.c13
  have c3 : w1.cell? ⟨a, 3, none⟩ = some (.int .i64 c.buckets) := C3 0 (by omega)
  have c4 : w1.cell? ⟨a, 4, none⟩ = some (.int .i64 c.quantum) := C3 1 (by omega)
  have c5 : w1.cell? ⟨a, 5, none⟩ = some (.int .i64 c.packets) := C3 2 (by omega)
  have c6 : w1.cell? ⟨a, 6, none⟩ = some (.int .i64 c.memory) := C3 3 (by omega)
  have c7 : w1.cell? ⟨a, 7, none⟩ = some (.int .i64 c.length) := C3 4 (by omega)
  have c8 : w1.cell? ⟨a, 8, none⟩ = some (.int .i64 c.target) := C3 5 (by omega)
  have c9 : w1.cell? ⟨a, 9, none⟩ = some (.int .i64 c.interval) := C3 6 (by omega)
  have c10 : w1.cell? ⟨a, 10, none⟩ = some (.int .i64 c.tau) := C3 7 (by omega)
  have c11 : w1.cell? ⟨a, 11, none⟩ = some (.bool c.ecn) := C3 8 (by omega)
  have c12 : w1.cell? ⟨a, 12, none⟩ = some (.string c.key) := C3 9 (by omega)
  clear C3 C14
  simp only [Cf.val] at HCF
  go_upto_region 14 with fail
  go_cut [5, 6] from 53 to 64 (fun v5 v6 wx => v6 = .int .i64 0 ∧ CfPost own w1 wx a hd c ax p b p' (fun l => p'.done = p.done ++ l) v5)
  case first =>
    go_region_with (go_at_call 20; refine (HCF.out _ ?_).mono ?_; exact (Below.refl _ _).drew; rintro e w2 ⟨v', rfl, hpo⟩)
    all_goals go_wp2_with fail
    all_goals go_meet
    all_goals exact ⟨rfl, hpo⟩
  case rest =>
    obtain ⟨rfl, hP⟩ := hcut
    obtain ⟨own2, l, hd1, hB2, hA2, hS2, hJ2, hF2⟩ := hP.ex
    clear hP b0 b1 b2 b3 b4 c13 c3 c4 c5 c6 c7 c8 c9 c10 c11 c12
    have HSM : Bx (p.c.keeps c → ChS p b c p' l) := ⟨fun hk => chS_of H1.out.jb H1.out.bd (by omega) c H1.out.cok hk p' HP.out l hd1⟩
    have HNW : Bx (¬ p.c.keeps c → ChN p b c p' l) := ⟨fun hk => by
      have e : p' = p.flush.renew c := by rw [← HP.out]; unfold Pt.configure; rw [if_neg hk]
      refine chN_of H1.out.jb H1.out.bd (by omega) c H1.out.cok p' (.inl e) l ?_
      have e2 : p'.done = p.done ++ flushEv p.now p.bk p.c.buckets := by rw [e]; rfl
      rw [e2] at hd1
      exact (List.append_cancel_left hd1).symm⟩
    have HCOK : Bx _ := ⟨H1.out.cok⟩
    have HIDS : Bx (p'.ids = p.ids) := ⟨by
      have := p.configure_ok (H1.out.jb 0).ok c H1.out.cok
      rw [HP.out] at this
      exact this.2.2.2.1⟩
    obtain ⟨C3, C14⟩ := HOFF.out _ _ hB2
    have c3 : wc.cell? ⟨a, 3, none⟩ = some (.int .i64 c.buckets) := C3 0 (by omega)
    have c4 : wc.cell? ⟨a, 4, none⟩ = some (.int .i64 c.quantum) := C3 1 (by omega)
    have c5 : wc.cell? ⟨a, 5, none⟩ = some (.int .i64 c.packets) := C3 2 (by omega)
    have c6 : wc.cell? ⟨a, 6, none⟩ = some (.int .i64 c.memory) := C3 3 (by omega)
    have c7 : wc.cell? ⟨a, 7, none⟩ = some (.int .i64 c.length) := C3 4 (by omega)
    have c8 : wc.cell? ⟨a, 8, none⟩ = some (.int .i64 c.target) := C3 5 (by omega)
    have c9 : wc.cell? ⟨a, 9, none⟩ = some (.int .i64 c.interval) := C3 6 (by omega)
    have c10 : wc.cell? ⟨a, 10, none⟩ = some (.int .i64 c.tau) := C3 7 (by omega)
    have c11 : wc.cell? ⟨a, 11, none⟩ = some (.bool c.ecn) := C3 8 (by omega)
    have c12 : wc.cell? ⟨a, 12, none⟩ = some (.string c.key) := C3 9 (by omega)
    have c14 : wc.cell? ⟨a, 14, none⟩ = some (.int .i64 p.c.buckets) := C14 0 (by omega)
    have c18 : wc.cell? ⟨a, 18, none⟩ = some (.int .i64 p.c.length) := C14 4 (by omega)
    have c23 : wc.cell? ⟨a, 23, none⟩ = some (.string p.c.key) := C14 9 (by omega)
    have HX : Bx _ := ⟨And.intro hB2 (And.intro hA2 (And.intro hS2 (And.intro hJ2 hF2)))⟩
    clear C3 C14 hB2 hA2 hS2 hJ2 hF2 hd1 HCF HOFF H1 HP HOK HO HL Hgb
    have HEND : Bx (∀ (nq : Nat) (own9 : Nat → Nat) (w9 : World) (B : Bo), BoAt own9 w9 a hd c ax B → Fr BTag own2 own9 (wc.drewN nq) w9 → (∀ hd, JB hd p' B) → BdB (200 * p'.done.length) B → WoPostC own w w9 a hd (m + 1)) := ⟨fun nq own9 w9 B h1 h2 h3 h4 => by
      have k : Below wc.heap.size wc (wc.drewN nq) := (Below.refl _ _).drewN nq
      obtain ⟨_, q2, _, q4, q5⟩ := HX.out
      exact WoPostC.before HB.out (wo_end hb16 (q2.fr hb16 (Fr.below k)) ((Fr.below (T := WTag) k).junk q4) (q5.trans (Fr.below k)) h1 h2 HCOK.out h3 h4 (by rw [HIDS.out]; omega))⟩
    by_cases hk : p.c.keeps c
    · have HS := HSM.out hk
      obtain ⟨k1, k2, k3⟩ := hk
      rw [← k1] at c14
      rw [← k2] at c23
      rw [← k3] at c18
      have HSx : Bx _ := ⟨HS⟩
      clear HS k1 k2 k3 HNW HSM
      go_wp2_with fail
      go_quiet (fail)
      have k : Below wc.heap.size wc (wc.drewN nq) := (Below.refl _ _).drewN nq
      obtain ⟨q1, q2, q3, q4, _⟩ := HX.out
      have HS := HSx.out
      have HCH : Bx _ := ⟨changed_same own2 a hd c ax p' b l u5 c (wc.drewN nq) (q1.below k) (q2.fr hb16 (Fr.below k)) ((Fr.below (T := WTag) k).junk q4) HS.ok HS.on HS.bu (q3.below k) HS.ll HS.fl HS.kd HS.hE HS.hB HS.hS HS.hT HHO.out⟩
      clear k q1 q2 q3 q4 HS
      simp only [Cf.val] at HCH
      go_wp2_with fail
      refine HCH.out.mono ?_
      rintro e w9 ⟨rfl, own9, hb9, hf9⟩
      have HZ : Bx (WoPostC own w w9 a hd (m + 1)) := ⟨HEND.out nq own9 w9 _ hb9 hf9 HSx.out.jb HSx.out.bd⟩
      clear hb9 hf9 HCH c3 c4 c5 c6 c7 c8 c9 c10 c11 c12 c14 c18 c23
      go_wp2_with fail
      go_end0
      exact ⟨rfl, HZ.out⟩
    · have HSx : Bx _ := ⟨HNW.out hk⟩
      clear HNW HSM
      have HT : Bx (∀ nq, Calls Try.prog 21 #[.pointer (some ⟨a, 0, none⟩), u5, .int .i64 0, c.val, .bool false] (wc.drewN nq) fun e w9 => e = .returned (.tuple #[]) ∧ WoPostC own w w9 a hd (m + 1)) := ⟨fun nq => by
        have k : Below wc.heap.size wc (wc.drewN nq) := (Below.refl _ _).drewN nq
        obtain ⟨q1, q2, q3, q4, _⟩ := HX.out
        have HS := HSx.out
        refine (changed_new own2 a hd c ax p' b l u5 c (wc.drewN nq) (q1.below k) (q2.fr hb16 (Fr.below k)) ((Fr.below (T := WTag) k).junk q4) HS.ok HS.on HS.bu (q3.below k) HS.ll HS.fl HS.kd HS.hE HS.hB HS.hS HS.hT HHO.out).mono ?_
        rintro e w9 ⟨he, own9, hb9, hf9⟩
        exact ⟨he, HEND.out nq own9 w9 _ hb9 hf9 HS.jb HS.bd⟩⟩
      simp only [Cf.val] at HT
      clear HX HEND HSx
      by_cases k1 : c.buckets = p.c.buckets
      case' neg =>
        have e1 : ¬ (c.buckets : Int) = p.c.buckets := by omega
        have e1b : ((c.buckets : Int) == (p.c.buckets : Int)) = false := beq_false_of_ne e1
        clear k1 hk
      case' pos =>
        have hk2 : ¬ (c.key = p.c.key ∧ c.length = p.c.length) := fun e => hk ⟨k1, e.1, e.2⟩
        rw [← k1] at c14
        clear k1 hk
        by_cases k2 : c.key = p.c.key
        case' neg =>
          have e2 : ¬ c.key.toList = p.c.key.toList := fun e => k2 (bytes_toList e)
          have e2b : (c.key.toList == p.c.key.toList) = false := beq_false_of_ne e2
          clear k2 hk2
        case' pos =>
          have e3 : ¬ (c.length : Int) = p.c.length := fun e => hk2 ⟨k2, by omega⟩
          have e3b : ((c.length : Int) == (p.c.length : Int)) = false := beq_false_of_ne e3
          rw [← k2] at c23
          clear k2 hk2
      all_goals
        go_wp2_with fail
        go_quiet (fail)
        go_wp2_with fail
        refine (HT.out nq).mono ?_
        rintro e w9 ⟨rfl, hp⟩
        have HZ : Bx (WoPostC own w w9 a hd (m + 1)) := ⟨hp⟩
        clear hp HT c3 c4 c5 c6 c7 c8 c9 c10 c11 c12 c14 c18 c23
        go_wp2_with fail
        go_end0
        exact ⟨rfl, HZ.out⟩

set_option maxRecDepth 100000 in
set_option maxHeartbeats 3200000 in
theorem step_reset (own : Nat → Nat) (a hd m : Nat) (c : Cf) (A B C : Int) (s : ByteArray) (w : World) (h : WoAt own w a hd m c) (hm : m < 16777216) (hH : HonestIs) :
    Calls Try.prog 12 #[.pointer (some ⟨a, 0, none⟩), .agg #[.int .i64 7, .int .i64 A, .int .i64 B, .int .i64 C, .string s]] w fun e w' => e = .returned (.tuple #[]) ∧ WoPostC own w w' a hd (m + 1) := by
  obtain ⟨ax, p, b, h⟩ := h
  have hbe : Below w.heap.size w (w.alloc (Obj.cells #[.int .i64 7, .int .i64 A, .int .i64 B, .int .i64 C, .string s] 27)) := (Below.refl _ _).alloc (Nat.le_refl _) _
  have HB : Bx _ := ⟨hbe⟩
  have H1 : Bx _ := ⟨h.below hbe⟩
  have HO : Bx (own w.heap.size = 0) := ⟨h.jk _ (Nat.le_refl _)⟩
  have HL : Bx (w.heap.size < (w.alloc (Obj.cells #[.int .i64 7, .int .i64 A, .int .i64 B, .int .i64 C, .string s] 27)).heap.size) := ⟨by simp⟩
  have BX : ∀ i u, #[Value.int .i64 7, .int .i64 A, .int .i64 B, .int .i64 C, .string s][i]? = some u → (w.alloc (Obj.cells #[.int .i64 7, .int .i64 A, .int .i64 B, .int .i64 C, .string s] 27)).cell? ⟨w.heap.size, i, none⟩ = some u := by
    intro i u hu
    rw [World.cell?_alloc_at _ _ _ _ rfl]
    exact hu
  have b0 := BX 0 _ rfl
  have b1 := BX 1 _ rfl
  have b2 := BX 2 _ rfl
  have b3 := BX 3 _ rfl
  have b4 := BX 4 _ rfl
  obtain ⟨gb, Hgb⟩ : ∃ gb, Bx (w.heap.size = gb) := ⟨_, ⟨rfl⟩⟩
  have HHO : Bx _ := ⟨hH⟩
  clear hH
  have hon : b.on = p.c := (h.jb 0).j.jq.on
  have hids := h.ids
  have HON : Bx _ := ⟨hon⟩
  clear hon
  clear h hbe BX
  go_enter Try.func12, Try.ntmps12
  go_upto_region 1 with fail
  rw [Hgb.out] at b0 b1 b2 b3 b4 HO HL ⊢
  generalize w.alloc (Obj.cells #[.int .i64 7, .int .i64 A, .int .i64 B, .int .i64 C, .string s] 27) = w1 at *
  have c13 := H1.out.c13
  have C14 : ∀ j, j < 10 → w1.cell? ⟨a, 14 + j, none⟩ = some (cfF p.c j) := by
    obtain ⟨vF, vH, g, hbo⟩ := H1.out.bo
    rw [← HON.out]
    intro j hj
    refine (hbo.cell (14 + j) (by omega)).trans ?_
    match j, hj with | 0, _ => rfl | 1, _ => rfl | 2, _ => rfl | 3, _ => rfl | 4, _ => rfl | 5, _ => rfl | 6, _ => rfl | 7, _ => rfl | 8, _ => rfl | 9, _ => rfl
  have c14 : w1.cell? ⟨a, 14, none⟩ = some (.int .i64 p.c.buckets) := C14 0 (by omega)
  have c15 : w1.cell? ⟨a, 15, none⟩ = some (.int .i64 p.c.quantum) := C14 1 (by omega)
  have c16 : w1.cell? ⟨a, 16, none⟩ = some (.int .i64 p.c.packets) := C14 2 (by omega)
  have c17 : w1.cell? ⟨a, 17, none⟩ = some (.int .i64 p.c.memory) := C14 3 (by omega)
  have c18 : w1.cell? ⟨a, 18, none⟩ = some (.int .i64 p.c.length) := C14 4 (by omega)
  have c19 : w1.cell? ⟨a, 19, none⟩ = some (.int .i64 p.c.target) := C14 5 (by omega)
  have c20 : w1.cell? ⟨a, 20, none⟩ = some (.int .i64 p.c.interval) := C14 6 (by omega)
  have c21 : w1.cell? ⟨a, 21, none⟩ = some (.int .i64 p.c.tau) := C14 7 (by omega)
  have c22 : w1.cell? ⟨a, 22, none⟩ = some (.bool p.c.ecn) := C14 8 (by omega)
  have c23 : w1.cell? ⟨a, 23, none⟩ = some (.string p.c.key) := C14 9 (by omega)
  have HBX : Bx (Box own (w1.alloc (Obj.cells (cfL p.c).toArray 29)) w1.heap.size (cfL p.c)) := ⟨Box.cfg p.c (H1.out.jk _ (Nat.le_refl _)) rfl⟩
  have HBE : Bx (Below w1.heap.size w1 (w1.alloc (Obj.cells (cfL p.c).toArray 29))) := ⟨(Below.refl _ _).alloc (Nat.le_refl _) _⟩
  have b4' : (w1.alloc (Obj.cells (cfL p.c).toArray 29)).cell? ⟨gb, 4, none⟩ = some (.string s) := (HBE.out.cell (p := ⟨gb, 4, none⟩) HL.out).trans b4
  clear C14
  simp only [cfL] at HBX HBE b4'
  go_upto_region 19 with fail
  obtain ⟨gc, Hgc⟩ : ∃ gc, Bx (w1.heap.size = gc) := ⟨_, ⟨rfl⟩⟩
  rw [Hgc.out] at HBX ⊢
  clear b0 b1 b2 b3 b4 c13 c14 c15 c16 c17 c18 c19 c20 c21 c22 c23
  generalize w1.alloc _ = w2 at *
  go_wp2_with fail
  refine (fill_any s 16 _ (by omega)).mono ?_
  rintro e w3 ⟨k, rfl, hk, hb3⟩
  have HBX3 := HBX.out.below hb3
  have k9 : w3.cell? ⟨gc, 9, none⟩ = some (.string p.c.key) := HBX3.cells 9 _ rfl
  have zc := HBX3.frozen
  have hgcl : gc < w3.heap.size := HBX3.lt
  have hgo := HBX3.tag
  obtain ⟨c2, Hc2⟩ : ∃ c2, Bx (({ p.c with key := k } : Cf) = c2) := ⟨_, ⟨rfl⟩⟩
  have HK2 : Bx (∀ j, j < 10 → (w3.setCell ⟨gc, 9, none⟩ (.string k)).cell? ⟨gc, j, none⟩ = some (cfF c2 j)) := ⟨by
    intro j hj
    have ne : ∀ i, i ≠ 9 → (w3.setCell ⟨gc, 9, none⟩ (.string k)).cell? ⟨gc, i, none⟩ = w3.cell? ⟨gc, i, none⟩ := fun i hi => World.cell?_setCell_other _ _ _ _ (fun e => by injection e with _ e; omega)
    rw [← Hc2.out]
    match j, hj with
    | 0, _ => exact (ne 0 (by omega)).trans (HBX3.cells 0 _ rfl)
    | 1, _ => exact (ne 1 (by omega)).trans (HBX3.cells 1 _ rfl)
    | 2, _ => exact (ne 2 (by omega)).trans (HBX3.cells 2 _ rfl)
    | 3, _ => exact (ne 3 (by omega)).trans (HBX3.cells 3 _ rfl)
    | 4, _ => exact (ne 4 (by omega)).trans (HBX3.cells 4 _ rfl)
    | 5, _ => exact (ne 5 (by omega)).trans (HBX3.cells 5 _ rfl)
    | 6, _ => exact (ne 6 (by omega)).trans (HBX3.cells 6 _ rfl)
    | 7, _ => exact (ne 7 (by omega)).trans (HBX3.cells 7 _ rfl)
    | 8, _ => exact (ne 8 (by omega)).trans (HBX3.cells 8 _ rfl)
    | 9, _ => exact World.cell?_setCell_same _ _ _ k9⟩
  have k9n : (w3.setCell ⟨gc, 9, none⟩ (.string k)).cell? ⟨gc, 9, none⟩ = some (.string k) := World.cell?_setCell_same _ _ _ k9
  have HB4 : Bx (Below w1.heap.size w1 (w3.setCell ⟨gc, 9, none⟩ (.string k))) := ⟨(HBE.out.trans (hb3.mono HBE.out.size)).setCell (Nat.le_of_eq Hgc.out) _⟩
  have H4 : Bx _ := ⟨H1.out.below HB4.out⟩
  have HBW : Bx (Below w.heap.size w (w3.setCell ⟨gc, 9, none⟩ (.string k))) := ⟨HB.out.trans (HB4.out.mono HB.out.size)⟩
  have hgcl4 : Bx (gc < (w3.setCell ⟨gc, 9, none⟩ (.string k)).heap.size) := ⟨by simpa [World.setCell] using hgcl⟩
  have HGO : Bx _ := ⟨hgo⟩
  clear HBX3 hb3 hgcl hgo HBX HBE b4' H1 HB4 HB
  go_upto_region 20 with fail
  clear k9 zc
  generalize w3.setCell ⟨gc, 9, none⟩ (.string k) = w4 at *
  have c13 := H4.out.c13
  obtain ⟨p', HP⟩ : ∃ p', Bx (p.reset k = p') := ⟨_, ⟨rfl⟩⟩
  have HC2 : Bx c2.ok := ⟨by
    have hc := (H4.out.jb 0).ok.c
    rw [← Hc2.out]
    exact ⟨hc.b1, hc.b2, hc.q1, hc.q2, hc.p1, hc.p2, hc.l1, hc.l2, hc.m1, hc.m2, hc.t1, hc.t2, hc.i2, hc.u1, hc.u2, hk⟩⟩
  have HPE : Bx (p' = { p.flush.renew c2 with done := [] }) := ⟨by rw [← HP.out, ← Hc2.out]; rfl⟩
  have HSx : Bx _ := ⟨chN_of H4.out.jb H4.out.bd (by omega) c2 HC2.out p' (.inr HPE.out) _ rfl⟩
  have hb16 : p'.c.buckets ≤ 16 := HSx.out.ok.c.b2
  have HCF : Bx (∀ wx, Below w4.heap.size w4 wx → Calls Try.prog 22 #[.pointer (some ⟨ax, 0, none⟩), .string k] wx fun e w' => ∃ v', e = .returned (.tuple #[v', .int .i64 0]) ∧ CfPost own w4 w' a hd c ax p b p' (fun l => l = flushEv p.now p.bk p.c.buckets) v' ∧ ∀ j, j < 10 → w'.cell? ⟨gc, j, none⟩ = some (cfF c2 j)) := ⟨fun wx kb => by
    have hx := H4.out.below kb
    refine (preset_any own 100 50 ax p k wx hx.pt ⟨by omega, by omega, by omega⟩ hx.jk (hx.jb 0).ok (by omega) hk).mono ?_
    rintro e w5 ⟨v', he, hpo⟩
    rw [HP.out] at hpo
    obtain ⟨own1, hA1, hS1, _, hF1⟩ := hpo.ex
    refine ⟨v', he, CfPost.below kb (CfPost.of hx _ rfl hA1 hS1 hF1), fun j hj => ?_⟩
    refine ((hF1.cell (b := gc) j (Nat.lt_of_lt_of_le hgcl4.out kb.size) ?_).trans (kb.cell (p := ⟨gc, j, none⟩) hgcl4.out)).trans (HK2.out j hj)
    rw [HGO.out]
    show ¬ ((100 ≤ 0 ∧ 0 < 100 + 20) ∨ 0 = 1 ∨ 0 = 50)
    omega⟩
  clear HPE HP
  go_cut [9, 10] from 121 to 130 (fun v9 v10 wx => v10 = .int .i64 0 ∧ CfPost own w4 wx a hd c ax p b p' (fun l => l = flushEv p.now p.bk p.c.buckets) v9 ∧ ∀ j, j < 10 → wx.cell? ⟨gc, j, none⟩ = some (cfF c2 j))
  case first =>
    go_region_with (go_at_call 22; refine (HCF.out _ ?_).mono ?_; exact (Below.refl _ _).drew; rintro e w5 ⟨v', rfl, hpo, hq⟩)
    all_goals have HPO : Bx _ := ⟨And.intro hpo hq⟩
    all_goals clear hpo hq
    all_goals go_wp2_with fail
    all_goals go_meet
    all_goals exact ⟨rfl, HPO.out.1, HPO.out.2⟩
  case rest =>
    obtain ⟨rfl, hP, KK⟩ := hcut
    obtain ⟨own2, l, rfl, hB2, hA2, hS2, hJ2, hF2⟩ := hP.ex
    clear hP c13 k9n HCF
    have k0 : wc.cell? ⟨gc, 0, none⟩ = some (.int .i64 c2.buckets) := KK 0 (by omega)
    have k1 : wc.cell? ⟨gc, 1, none⟩ = some (.int .i64 c2.quantum) := KK 1 (by omega)
    have k2 : wc.cell? ⟨gc, 2, none⟩ = some (.int .i64 c2.packets) := KK 2 (by omega)
    have k3 : wc.cell? ⟨gc, 3, none⟩ = some (.int .i64 c2.memory) := KK 3 (by omega)
    have k4 : wc.cell? ⟨gc, 4, none⟩ = some (.int .i64 c2.length) := KK 4 (by omega)
    have k5 : wc.cell? ⟨gc, 5, none⟩ = some (.int .i64 c2.target) := KK 5 (by omega)
    have k6 : wc.cell? ⟨gc, 6, none⟩ = some (.int .i64 c2.interval) := KK 6 (by omega)
    have k7 : wc.cell? ⟨gc, 7, none⟩ = some (.int .i64 c2.tau) := KK 7 (by omega)
    have k8 : wc.cell? ⟨gc, 8, none⟩ = some (.bool c2.ecn) := KK 8 (by omega)
    have k9 : wc.cell? ⟨gc, 9, none⟩ = some (.string c2.key) := KK 9 (by omega)
    have HT : Bx (Calls Try.prog 21 #[.pointer (some ⟨a, 0, none⟩), u9, .int .i64 0, c2.val, .bool false] wc fun e w9 => e = .returned (.tuple #[]) ∧ WoPostC own w w9 a hd (m + 1)) := ⟨by
      have HS := HSx.out
      refine (changed_new own2 a hd c ax p' b _ u9 c2 wc hB2 hA2 hJ2 HS.ok HS.on HS.bu hS2 HS.ll HS.fl HS.kd HS.hE HS.hB HS.hS HS.hT HHO.out).mono ?_
      rintro e w9 ⟨he, own9, hb9, hf9⟩
      exact ⟨he, WoPostC.before HBW.out (wo_end hb16 hA2 hJ2 hF2 hb9 hf9 H4.out.cok HS.jb HS.bd (by rw [HS.ids]; exact hids))⟩⟩
    simp only [Cf.val] at HT
    clear KK hB2 hA2 hS2 hJ2 hF2
    go_wp2_with fail
    refine HT.out.mono ?_
    rintro e w9 ⟨rfl, hp⟩
    have HZ : Bx (WoPostC own w w9 a hd (m + 1)) := ⟨hp⟩
    clear hp HT k0 k1 k2 k3 k4 k5 k6 k7 k8 k9
    go_wp2_with fail
    go_end0
    exact ⟨rfl, HZ.out⟩

end Go.Proofs.Ytnkicbopebgppaa

/-! The script; is it small? -/
namespace Go.Proofs.Ytnkicbopebgppaa
open Go.RowKit Fl

structure OpV where
  kd : Int
  A : Int
  B : Int
  C : Int
  s : ByteArray

instance : Inhabited OpV := ⟨⟨0, 0, 0, 0, ⟨#[]⟩⟩⟩

/-- Numbers and texts that Go holds. -/
structure OpOk (o : OpV) : Prop where
  k1 : -9223372036854775808 ≤ o.kd
  k2 : o.kd ≤ 9223372036854775807
  a1 : -9223372036854775808 ≤ o.A
  a2 : o.A ≤ 9223372036854775807
  b1 : -9223372036854775808 ≤ o.B
  b2 : o.B ≤ 9223372036854775807
  s : o.s.size ≤ 140737488355328

/-- Where one step of a script lies. -/
structure OpAt (w : World) (g off : Nat) (o : OpV) : Prop where
  o0 : w.cell? ⟨g, off, none⟩ = some (.int .i64 o.kd)
  o1 : w.cell? ⟨g, off + 1, none⟩ = some (.int .i64 o.A)
  o2 : w.cell? ⟨g, off + 2, none⟩ = some (.int .i64 o.B)
  o3 : w.cell? ⟨g, off + 3, none⟩ = some (.int .i64 o.C)
  o4 : w.cell? ⟨g, off + 4, none⟩ = some (.string o.s)

structure ScIs (w : World) (vb : Option Addr) (n cap : Nat) (S : Nat → OpV) : Prop where
  le : n ≤ cap
  mx : cap ≤ 140737488355328
  at_ : 0 < n → ∃ g off, vb = some ⟨g, off, none⟩ ∧ g < w.heap.size ∧ ∀ i, i < n → OpAt w g (off + i * 5) (S i)
  ok : ∀ i, i < n → OpOk (S i)

theorem OpAt.below {w w' : World} {g off : Nat} {o : OpV} (h : OpAt w g off o) (k : Below w.heap.size w w') (hlt : g < w.heap.size) : OpAt w' g off o :=
  ⟨(k.cell (p := ⟨g, off, none⟩) hlt).trans h.o0, (k.cell (p := ⟨g, off + 1, none⟩) hlt).trans h.o1, (k.cell (p := ⟨g, off + 2, none⟩) hlt).trans h.o2, (k.cell (p := ⟨g, off + 3, none⟩) hlt).trans h.o3, (k.cell (p := ⟨g, off + 4, none⟩) hlt).trans h.o4⟩

theorem ScIs.below {w w' : World} {vb : Option Addr} {n cap : Nat} {S : Nat → OpV} (h : ScIs w vb n cap S) (k : Below w.heap.size w w') : ScIs w' vb n cap S :=
  ⟨h.le, h.mx, fun hn => by
    obtain ⟨g, off, e, hlt, hc⟩ := h.at_ hn
    exact ⟨g, off, e, Nat.lt_of_lt_of_le hlt k.size, fun i hi => (hc i hi).below k hlt⟩, h.ok⟩

set_option maxRecDepth 100000 in
set_option maxHeartbeats 3200000 in
theorem small_any (vb : Option Addr) (n cap : Nat) (S : Nat → OpV) (w : World) (h : ScIs w vb n cap S) :
    Calls Try.prog 8 #[.slice vb n cap] w fun e w' => (e = .returned (.bool false) ∨ (e = .returned (.bool true) ∧ n ≤ 1048576)) ∧ w' = w := by
  have hle := h.le
  have hmx := h.mx
  have H : Bx _ := ⟨h⟩
  clear h
  go_enter Try.func8, Try.ntmps8
  by_cases hbig : 1048576 < n
  · have i0 : (1048576 : Int) < n := by omega
    go_wp2_with fail
    go_ret
    exact ⟨.inl rfl, rfl⟩
  · have i0 : ¬ (1048576 : Int) < n := by omega
    go_wp2_with fail
    go_loopw [3, 4] (fun v3 v4 wr => ∃ k i : Nat, v3 = .int .i64 k ∧ v4 = .int .i64 i ∧ k ≤ 1048576 ∧ i ≤ n ∧ wr = w) (fun _ v4 _ => n - (intOf v4).toNat)
    case atStart => exact ⟨n, 0, rfl, rfl, by omega, by omega, rfl⟩
    case round =>
      obtain ⟨k, i, rfl, rfl, hk, hi, rfl⟩ := hrel
      by_cases hil : i < n
      · have i1 : (i : Int) < n := by omega
        obtain ⟨g, off, hvb, hlt, hc⟩ := H.out.at_ (by omega)
        subst hvb
        have o4 := (hc i hil).o4
        have hs := (H.out.ok i hil).s
        obtain ⟨t, Ht, hts⟩ : ∃ t, Bx ((S i).s = t) ∧ t.size ≤ 140737488355328 := ⟨_, ⟨rfl⟩, hs⟩
        rw [Ht.out] at o4
        clear hc hs
        by_cases hb2 : 1048576 < k + t.size
        · have i2 : (1048576 : Int) < (k : Int) + t.size := by omega
          go_wp2_with fail
          go_ret
          exact ⟨.inl rfl, rfl⟩
        · have i2 : ¬ (1048576 : Int) < (k : Int) + t.size := by omega
          go_wp2_with fail
          exact ⟨⟨k + t.size, i + 1, by go_num, by go_num, by omega, by omega, trivial⟩, by simp [intOf]; omega⟩
      · have i1 : ¬ (i : Int) < n := by omega
        go_wp2_with fail
        go_ret
        exact ⟨.inr ⟨rfl, by omega⟩, rfl⟩

end Go.Proofs.Ytnkicbopebgppaa
