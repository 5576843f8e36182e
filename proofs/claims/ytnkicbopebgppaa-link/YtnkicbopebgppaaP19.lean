import Derived.Test.YtnkicbopebgppaaP18
/-! A frame arrives and joins. -/
namespace Go.Proofs.Ytnkicbopebgppaa
open Go.RowKit Fl

theorem made_fq (w : World) (t : ByteArray) (now : Nat) (able : Bool) : FqAt (w.alloc (Obj.cells #[Value.string t, Value.int IntKind.i64 (now : Int), Value.bool able, Value.bool false, Value.int IntKind.i64 (-1), Value.int IntKind.i64 (-1)] 72)) w.heap.size ⟨t, now, able, false, -1, -1⟩ :=
  ⟨by go_simp, by go_simp, by go_simp, by go_simp, by go_simp, by go_simp, fun i => by go_simp⟩

set_option maxRecDepth 100000 in
set_option maxHeartbeats 12800000 in
theorem arrives_join (own : Nat → Nat) (a hd n : Nat) (c : Cf) (ax : Nat) (p : Pt) (b : Bo) (t : ByteArray) (able : Bool) (w : World) (h : WoIs own w a hd c n ax p b) (hn : n < 16777216) (ht1 : 1 ≤ t.size) (ht : t.size ≤ p.c.length) (hable : able = true → canB t = true) (hH : HonestIs) :
    Calls Try.prog 18 #[.pointer (some ⟨a, 0, none⟩), .string t, .bool able] w fun e w' => e = .returned (.tuple #[]) ∧ WoPost own w w' a hd (n + 1) c := by
  have hids := h.ids
  obtain ⟨k, HK⟩ : ∃ k, Bx (place p.c t = k) := ⟨_, ⟨rfl⟩⟩
  obtain ⟨p', HP⟩ : ∃ p', Bx (p.arrive t = p') := ⟨_, ⟨rfl⟩⟩
  have HA : Bx _ := ⟨parrive_any own 100 50 ax p t w h.pt ⟨by omega, by omega, by omega⟩ h.jk (h.jb 0).ok (h.jb 0).f64 (by omega) ht1 ht p' HP⟩
  have c13 : w.cell? ⟨a, 13, none⟩ = some (.pointer (some ⟨ax, 0, none⟩)) := by
    obtain ⟨vF, vH, g, hb⟩ := h.bo
    exact hb.cell 13 (by omega)
  have H : Bx _ := ⟨h⟩
  have HH : Bx _ := ⟨hH⟩
  have HAB : Bx _ := ⟨hable⟩
  have hne := not_empty ht1
  clear h hable hH
  go_enter Try.func18, Try.ntmps18
  go_wp2_with fail
  refine HA.out.mono ?_
  rintro e w1 ⟨v', rfl, hpo⟩
  obtain ⟨own1, l, hd1, hA1, hS1, _, hF1⟩ := hpo.ex
  simp only [List.nil_append] at hS1
  have AF : Bx _ := ⟨arF_of H.out.jb H.out.bd (by omega) k t HK.out ht1 ht able HAB.out p' HP.out l hd1⟩
  obtain ⟨vb, vc, hv⟩ : ∃ vb k, v' = .slice vb l.length k := by
    obtain ⟨_, h2⟩ := hS1
    rcases h2 with ⟨hv, hn⟩ | ⟨g, off, cap, hv, _⟩
    · exact ⟨none, 0, by rw [hv, hn]⟩
    · exact ⟨some ⟨g, off, none⟩, cap, hv⟩
  subst hv
  obtain ⟨vF, vH, g, hb1⟩ := H.out.bo.fr hF1 (fun t ht => by show ¬ ((100 ≤ t ∧ t < 100 + 20) ∨ t = 1 ∨ t = 50); have := ht.1; have := ht.2; omega)
  have hb16 : p'.c.buckets ≤ 16 := AF.out.ok.c.b2
  have HW : Bx (ArW own w own1 w1 a hd c ax vF vH g b p' l (.slice vb l.length vc)) := ⟨hb1, hA1, hS1, hF1.junk H.out.jk, hF1.mono (fun t e => by show t ≠ 0; rcases e with e | e | e <;> omega)⟩
  clear hpo hd1 hA1 hS1 hF1 HA c13 hb1
  obtain ⟨fb, fc, hvF⟩ : ∃ vb k, vF = .slice vb p.ids k := by
    rw [← AF.out.len]
    obtain ⟨_, h2⟩ := HW.out.bo.f
    rcases h2 with ⟨hv, hn⟩ | ⟨g, off, cap, hv, _⟩
    · exact ⟨none, 0, by rw [hv, hn]⟩
    · exact ⟨some ⟨g, off, none⟩, cap, hv⟩
  obtain ⟨hb, hc, hvH⟩ : ∃ vb k, vH = .slice vb b.here.length k := by
    obtain ⟨_, h2⟩ := HW.out.bo.here
    rcases h2 with ⟨hv, hn⟩ | ⟨g, off, cap, hv, _⟩
    · exact ⟨none, 0, by rw [hv, hn]⟩
    · exact ⟨some ⟨g, off, none⟩, cap, hv⟩
  subst hvF hvH
  have c18 : w1.cell? ⟨a, 18, none⟩ = some (.int .i64 p.c.length) := by
    have h1 : w1.cell? ⟨a, 18, none⟩ = some (.int .i64 b.on.length) := HW.out.bo.cell 18 (by omega)
    rw [AF.out.on] at h1; exact h1
  have i1 : ¬ (p.c.length : Int) < t.size := by omega
  have i2 : decide ((p.c.length : Int) < t.size) = false := decide_eq_false i1
  have HBU : Bx _ := ⟨bucket_any own1 a hd c ax b p' l (.slice vb l.length vc) p.ids k t w1 ⟨_, _, _, HW.out.bo⟩ HW.out.pt AF.out.ok (by rw [AF.out.cc]; exact AF.out.on) (by rw [AF.out.cc]; exact AF.out.kb) ht1 AF.out.t2 HW.out.sl AF.out.ll AF.out.ev AF.out.id AF.out.sz (fun i hi => Nat.le_trans (AF.out.s2 i (by rw [← AF.out.cc]; exact hi)) (by omega))⟩
  go_wp2_with fail
  refine HBU.out.mono ?_
  rintro e w2 ⟨rfl, hbe⟩
  have HW2 : Bx _ := ⟨HW.out.below hb16 hbe⟩
  clear HW hbe HBU c18
  have c24 : w2.cell? ⟨a, 24, none⟩ = some (.slice fb p.ids fc) := HW2.out.bo.cell 24 (by omega)
  have c13 : w2.cell? ⟨a, 13, none⟩ = some (.pointer (some ⟨ax, 0, none⟩)) := HW2.out.bo.cell 13 (by omega)
  have i3 : (0 : Int) ≤ k := by omega
  go_wp2_with fail
  refine (needs_yes a _).mono ?_
  rintro e wz ⟨rfl, hz⟩
  subst hz
  have HNW : Bx _ := ⟨pnow_any own1 100 ax _ p' wz HW2.out.pt⟩
  rw [AF.out.now] at HNW
  go_wp2_with fail
  refine HNW.out.mono ?_
  rintro e w3 ⟨rfl, hbe⟩
  have HW3 : Bx _ := ⟨HW2.out.below hb16 hbe⟩
  clear HW2 hbe HNW c24 c13
  have c27 : w3.cell? ⟨a, 27, none⟩ = some (.bool b.old) := HW3.out.bo.cell 27 (by omega)
  have hlt := HW3.out.bo.lt
  have hne1 : ¬ a = w3.heap.size := by omega
  have hne2 : ¬ w3.heap.size = a := by omega
  have HBW : Bx _ := ⟨(Below.refl w3.heap.size w3).alloc (Nat.le_refl _) (Obj.cells #[Value.string t, Value.int IntKind.i64 (p.now : Int), Value.bool able, Value.bool false, Value.int IntKind.i64 (-1), Value.int IntKind.i64 (-1)] 72)⟩
  have HMF : Bx _ := ⟨made_fq w3 t p.now able⟩
  obtain ⟨ob, HO⟩ : ∃ ob, Bx (b.old = ob) := ⟨_, ⟨rfl⟩⟩
  rw [HO.out] at c27
  cases ob
  case' false =>
    go_wp2_with fail
    refine (claims_any own1 a hd c ax b k w3.heap.size t p.now able _ ⟨_, _, _, HW3.out.bo.below HBW.out⟩ (by rw [AF.out.on]; exact AF.out.cc ▸ AF.out.ok.c) (by rw [AF.out.on]; exact AF.out.kb) HMF.out (HW3.out.jk _ (Nat.le_refl _)) (by simp) (by rw [← AF.out.now]; exact AF.out.ok.now) AF.out.t2 (Nat.le_trans (AF.out.s2 k AF.out.kb) (by omega)) HO.out).mono ?_
    rintro e w4 ⟨rfl, hfq, hon4⟩
    have HB4 : Bx (Below w3.heap.size w3 w4) := ⟨Only.belowNew _ rfl hon4⟩
    have HG4 : Bx (w3.heap.size < w4.heap.size) := ⟨Nat.lt_of_lt_of_le (by simp) hon4.size⟩
    have HF4 : Bx (FqAt w4 w3.heap.size (b.claimed k t p.now able)) := ⟨hfq⟩
    clear hfq hon4
    go_wp2_with fail
  case' true =>
    go_wp2_with fail
    have HB4 : Bx (Below w3.heap.size w3 (w3.alloc (Obj.cells #[Value.string t, Value.int IntKind.i64 (p.now : Int), Value.bool able, Value.bool false, Value.int IntKind.i64 (-1), Value.int IntKind.i64 (-1)] 72))) := HBW
    have HG4 : Bx (w3.heap.size < (w3.alloc (Obj.cells #[Value.string t, Value.int IntKind.i64 (p.now : Int), Value.bool able, Value.bool false, Value.int IntKind.i64 (-1), Value.int IntKind.i64 (-1)] 72)).heap.size) := ⟨by simp⟩
    have HF4 : Bx (FqAt (w3.alloc (Obj.cells #[Value.string t, Value.int IntKind.i64 (p.now : Int), Value.bool able, Value.bool false, Value.int IntKind.i64 (-1), Value.int IntKind.i64 (-1)] 72)) w3.heap.size (b.claimed k t p.now able)) := ⟨by rw [show b.claimed k t p.now able = ⟨t, p.now, able, false, -1, -1⟩ from by unfold Bo.claimed; rw [if_pos HO.out]]; exact HMF.out⟩
    clear HBW HMF
    generalize w3.alloc (Obj.cells #[Value.string t, Value.int IntKind.i64 (p.now : Int), Value.bool able, Value.bool false, Value.int IntKind.i64 (-1), Value.int IntKind.i64 (-1)] 72) = w4 at *
  all_goals
    try clear HBW HMF
    have HW4 : Bx _ := ⟨HW3.out.below hb16 HB4.out⟩
    clear HW3 HB4 c27 hne1 hne2 hlt HO
    obtain ⟨gb, HGB⟩ : ∃ gb, Bx (w3.heap.size = gb) := ⟨_, ⟨rfl⟩⟩
    rw [HGB.out] at HG4 HF4 ⊢
    clear HGB
    obtain ⟨F, HF⟩ : ∃ F, Bx (b.claimed k t p.now able = F) := ⟨_, ⟨rfl⟩⟩
    rw [HF.out] at HF4
    have f0 := HF4.out.f0
    have f1 := HF4.out.f1
    have f2 := HF4.out.f2
    have f3 := HF4.out.f3
    have f4 := HF4.out.f4
    have f5 := HF4.out.f5
    have hgn1 : ¬ gb = w4.heap.size := by have := HG4.out; omega
    have hgn2 : ¬ w4.heap.size = gb := by have := HG4.out; omega
    have hlt := HW4.out.bo.lt
    have hne1 : ¬ a = w4.heap.size := by omega
    have hne2 : ¬ w4.heap.size = a := by omega
    have c24 : w4.cell? ⟨a, 24, none⟩ = some (.slice fb p.ids fc) := HW4.out.bo.cell 24 (by omega)
    have hz := HW4.out.bo.frozen
    have HWa : Bx (ArW own w own1 (w4.alloc (Obj.cells #[Value.string F.s, Value.int .i64 (F.at_ : Int), Value.bool F.able, Value.bool F.gone, Value.int .i64 F.first, Value.int .i64 F.soon] 72)).drew a hd c ax (Value.slice fb p.ids fc) (Value.slice hb b.here.length hc) g b p' l (Value.slice vb l.length vc)) := ⟨HW4.out.below hb16 (((Below.refl _ _).alloc (Nat.le_refl _) _).drew)⟩
    have hfl : b.f.length ≤ 67108864 := by rw [AF.out.len]; omega
    clear HF4 HG4 HW4
    go_region_law (refine step_append_fq rfl (.tmp 108) (.tmp 110) rfl own1 (.slice fb p.ids fc) b.f (by simp [Act.eval]) HWa.out.bo.f w4.heap.size 1 F (by simp [Act.eval]) (by go_simp) (by go_simp) (by go_simp) (by go_simp) (by go_simp) (by go_simp) hfl ?_; intro v5 w5 own5 hsl5 hfr5 hv5; obtain ⟨b5, k5, rfl⟩ := hv5; have hr5 := HWa.out.bo.row.fr hfr5 (show ¬ 2 = 10 by omega); have d24 : w5.cell? ⟨a, 24, none⟩ = some (.slice fb p.ids fc) := hr5.row.cell (i := 24) (by omega); have dz := hr5.row.frozen; clear hr5)
  all_goals
    have HW6 : Bx _ := ⟨HWa.out.book hb16 (HWa.out.bo.fGrow hfr5 _ _ hsl5)⟩
    clear HWa hsl5 hfr5 d24 dz c24 hz f0 f1 f2 f3 f4 f5 hgn1 hgn2 hlt hne1 hne2
    generalize w5.setCell ⟨a, 24, none⟩ (Value.slice (some b5) (b.f.length + 1) k5) = w6 at *
    have c25 : w6.cell? ⟨a, 25, none⟩ = some (.slice hb b.here.length hc) := HW6.out.bo.cell 25 (by omega)
    have hlt := HW6.out.bo.lt
    have hne1 : ¬ a = w6.heap.size := by omega
    have hne2 : ¬ w6.heap.size = a := by omega
    have hL : b.here.length ≤ 1000 := Nat.le_trans AF.out.he (by omega)
    go_wp2_with (at_builtin; refine wpList_push_int _ rfl _ _ rfl own5 (g 8) (.slice hb b.here.length hc) b.here p.ids rfl (HW6.out.bo.here.below ((Below.refl _ _).alloc (Nat.le_refl _) _)) hL w6.heap.size 1 rfl (by go_simp) ?_)
    intro v7 w7 own7 hsl7 hfr7 b7 k7 hv7
    subst hv7
    have hcomp : Fr (fun t => t = g 8) own5 own7 w6 w7 := (Fr.below ((Below.refl _ _).alloc (Nat.le_refl _) _)).trans hfr7
    have HW7 : Bx _ := ⟨HW6.out.book hb16 (HW6.out.bo.hereGrow hcomp (.slice (some b7) (b.here.length + 1) k7) (b.here ++ [p.ids]) (by rw [List.length_append]; exact hsl7))⟩
    have hr7 := HW6.out.bo.row.fr hcomp (HW6.out.bo.n8 2 (by omega) (by omega))
    have d25 : w7.cell? ⟨a, 25, none⟩ = some (.slice hb b.here.length hc) := hr7.row.cell (i := 25) (by omega)
    have dz := hr7.row.frozen
    have hkb : k < b.on.buckets := by rw [AF.out.on]; exact AF.out.kb
    have i4 : (k : Int) < b.on.buckets := by omega
    have d31 : w7.cell? ⟨a, 31, none⟩ = some (.slice (some ⟨g 2, 0, none⟩) b.on.buckets b.on.buckets) := hr7.row.cell (i := 31) (by omega)
    have d32 : w7.cell? ⟨a, 32, none⟩ = some (.slice (some ⟨g 3, 0, none⟩) b.on.buckets b.on.buckets) := hr7.row.cell (i := 32) (by omega)
    have d33 : w7.cell? ⟨a, 33, none⟩ = some (.slice (some ⟨g 4, 0, none⟩) b.on.buckets b.on.buckets) := hr7.row.cell (i := 33) (by omega)
    have htu := HW6.out.bo.tu.fr hcomp (HW6.out.bo.n8 14 (by omega) (by omega))
    have hus := HW6.out.bo.us.fr hcomp (HW6.out.bo.n8 15 (by omega) (by omega))
    have hsi := HW6.out.bo.si.fr hcomp (HW6.out.bo.n8 16 (by omega) (by omega))
    have e2 : w7.cell? ⟨g 2, k, none⟩ = some (.int .i64 (b.turn k : Nat)) := htu.row.cell hkb
    have e3 : w7.cell? ⟨g 3, k, none⟩ = some (.bool (b.used k)) := hus.row.cell hkb
    have e4 : w7.cell? ⟨g 4, k, none⟩ = some (.int .i64 (b.size k : Nat)) := hsi.row.cell hkb
    have z2 := htu.row.frozen
    have z3 := hus.row.frozen
    have z4 := hsi.row.frozen
    have tga := hr7.tag
    have tg2 := htu.tag
    have tg3 := hus.tag
    have tg4 := hsi.tag
    have n1 : ¬ g 2 = a := fun x => by rw [x, tga] at tg2; omega
    have n2 : ¬ g 3 = a := fun x => by rw [x, tga] at tg3; omega
    have n3 : ¬ g 4 = a := fun x => by rw [x, tga] at tg4; omega
    have n4 : ¬ g 2 = g 3 := fun x => by rw [x, tg3] at tg2; omega
    have n5 : ¬ g 2 = g 4 := fun x => by rw [x, tg4] at tg2; omega
    have n6 : ¬ g 3 = g 4 := fun x => by rw [x, tg4] at tg3; omega
    have m1 : ¬ a = g 2 := fun x => n1 x.symm
    have m2 : ¬ a = g 3 := fun x => n2 x.symm
    have m3 : ¬ a = g 4 := fun x => n3 x.symm
    have m4 : ¬ g 3 = g 2 := fun x => n4 x.symm
    have m5 : ¬ g 4 = g 2 := fun x => n5 x.symm
    have m6 : ¬ g 4 = g 3 := fun x => n6 x.symm
    clear hr7 hcomp hsl7 hfr7 HW6 c25 hlt hne1 hne2 htu hus hsi tga tg2 tg3 tg4
    have HCS : Bx (F.s = t) := ⟨by rw [← HF.out]; exact (b.claimed_plain k t p.now able).1⟩
    have hs2 := AF.out.s2 k AF.out.kb
    have ht2 := AF.out.t2
    obtain ⟨S, HSZ⟩ : ∃ S, Bx (b.size k = S) := ⟨_, ⟨rfl⟩⟩
    rw [HSZ.out] at e4 hs2
    by_cases hS0 : S = 0
    case' pos =>
      subst hS0
      have N1 := HW7.out.book hb16 (HW7.out.bo.usSet k true)
      have N2 := N1.book hb16 (N1.bo.tuSet k 0)
      have N3 := N2.book hb16 (N2.bo.siSet k (0 + t.size))
      have HN : Bx (ArW own w own7 ((((w7.setCell ⟨a, 25, none⟩ (.slice (some b7) (b.here.length + 1) k7)).setCell ⟨g 3, k, none⟩ (.bool true)).setCell ⟨g 2, k, none⟩ (.int .i64 0)).setCell ⟨g 4, k, none⟩ (.int .i64 t.size)).drew a hd c ax (Value.slice (some b5) (b.f.length + 1) k5) (.slice (some b7) (b.here.length + 1) k7) g (b.joins k F) p' l (Value.slice vb l.length vc)) := ⟨by
        have e : b.joins k F = { ({ ({ ({ ({ b with f := b.f ++ [F] } : Bo) with here := b.here ++ [p.ids] } : Bo) with used := setAt b.used k true } : Bo) with turn := setAt b.turn k 0 } : Bo) with size := setAt b.size k (0 + t.size) } := by
          unfold Bo.joins
          rw [if_pos HSZ.out, HSZ.out, HCS.out, AF.out.len]
        rw [e]
        rw [Nat.zero_add] at N3 ⊢
        exact N3.below hb16 (Below.refl _ _).drew⟩
    case' neg =>
      have i5 : ((S : Int) == 0) = false := beq_false_of_ne (by omega)
      have i6 : ¬ (S : Int) = 0 := by omega
      have N1 := HW7.out.book hb16 (HW7.out.bo.usSet k true)
      have N3 := N1.book hb16 (N1.bo.siSet k (S + t.size))
      have HN : Bx (ArW own w own7 (((w7.setCell ⟨a, 25, none⟩ (.slice (some b7) (b.here.length + 1) k7)).setCell ⟨g 3, k, none⟩ (.bool true)).setCell ⟨g 4, k, none⟩ (.int .i64 ((S : Int) + t.size))).drew a hd c ax (Value.slice (some b5) (b.f.length + 1) k5) (.slice (some b7) (b.here.length + 1) k7) g (b.joins k F) p' l (Value.slice vb l.length vc)) := ⟨by
        have e : b.joins k F = { ({ ({ ({ b with f := b.f ++ [F] } : Bo) with here := b.here ++ [p.ids] } : Bo) with used := setAt b.used k true } : Bo) with size := setAt b.size k (S + t.size) } := by
          unfold Bo.joins
          rw [if_neg (by rw [HSZ.out]; exact hS0), HSZ.out, HCS.out, AF.out.len]
        rw [e]
        rw [Int.natCast_add] at N3
        exact N3.below hb16 (Below.refl _ _).drew⟩
    all_goals
      clear N1 N3 HW7
      try clear N2
      go_wp2_with fail
      go_region
    all_goals
      go_wp2_with fail
      refine (happened_any own7 a hd c ax p' (b.joins k F) l (.slice vb l.length vc) _ ⟨_, _, _, HN.out.bo⟩ HN.out.pt AF.out.ok (by show b.on = p'.c; rw [AF.out.cc]; exact AF.out.on) HN.out.sl AF.out.ll (by rw [← HF.out]; exact AF.out.hE) (by rw [← HF.out]; exact AF.out.hB) (by rw [← HF.out]; exact AF.out.hS) (by rw [← HF.out]; exact AF.out.hT) HH.out).mono ?_
      rintro e w9 ⟨rfl, own9, hb9, hf9⟩
      have HZ : Bx (WoPost own w w9 a hd (n + 1) c) := ⟨⟨own9, ⟨ax, p', _, ⟨hb9, HN.out.pt.fr hb16 hf9, hf9.junk HN.out.jk, H.out.cok, by rw [← HF.out]; exact AF.out.jb, by rw [← HF.out]; exact AF.out.bd, by rw [AF.out.ids]; omega⟩⟩, HN.out.fr.trans (hf9.mono (fun t ht => by show t ≠ 0; have := ht.1; omega))⟩⟩
      clear hb9 hf9 HN
      go_wp2_with fail
      go_end0
      exact ⟨rfl, HZ.out⟩

end Go.Proofs.Ytnkicbopebgppaa
