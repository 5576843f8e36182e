import Derived.Test.YtnkicbopebgppaaP20
import Derived.Test.YtnkicbopebgppaaP03
import Derived.Test.YtnkicbopebgppaaP10
/-! Another configuration: buckets anew. -/
namespace Go.Proofs.Ytnkicbopebgppaa
open Go.RowKit Fl

set_option maxRecDepth 100000 in
set_option maxHeartbeats 6400000 in
theorem changed_new (own : Nat → Nat) (a hd : Nat) (c : Cf) (ax : Nat) (p : Pt) (b : Bo) (l : List Ev) (v : Value) (k : Cf) (w : World) (h : BoAt own w a hd c ax b) (hp : PtAt own w 100 ax p) (hj : Junk own w) (hok : p.ok) (hon : k = p.c) (hbu : b.on.buckets ≤ 16) (hsl : Sl evG own w 50 5 v l.length (evCells l)) (hl : l.length ≤ 16777216) (hfl : b.f.length ≤ 16777216) (hkd : ∀ i (h : i < l.length), l[i].kind = 5) (hE : ∀ hd, EvsOk hd p.now b.changes l) (hBd : ∀ i (h : i < l.length), EvB (b.changes.events (l.take i)) l[i]) (hS : ∀ hd, StOk hd p ((b.changes.events l).news k)) (hSB : StB ((b.changes.events l).news k)) (hH : HonestIs) :
    Calls Try.prog 21 #[.pointer (some ⟨a, 0, none⟩), v, .int .i64 0, k.val, .bool false] w fun e w' => e = .returned (.tuple #[]) ∧ ∃ own', BoAt own' w' a hd c ax (((b.changes.events l).news k).stands p.busy) ∧ Fr BTag own own' w w' := by
  obtain ⟨vF, vH, g, h⟩ := h
  have hb16 := hok.c.b2
  have hn : b.on.buckets ≤ 16 := hbu
  obtain ⟨NN, HNN, hNN, hnn⟩ : ∃ NN : Nat, Bx (b.on.buckets * b.on.buckets = NN) ∧ NN ≤ 256 ∧ (b.on.buckets : Int) * (b.on.buckets : Nat) = NN := ⟨_, ⟨rfl⟩, Nat.mul_le_mul hn hn, by simp⟩
  obtain ⟨vb, vc, hv⟩ : ∃ vb k, v = .slice vb l.length k := by
    obtain ⟨_, h2⟩ := hsl
    rcases h2 with ⟨hv, hn⟩ | ⟨g, off, cap, hv, _⟩
    · exact ⟨none, 0, by rw [hv, hn]⟩
    · exact ⟨some ⟨g, off, none⟩, cap, hv⟩
  obtain ⟨fb, fc, hvF⟩ : ∃ vb k, vF = .slice vb b.f.length k := by
    obtain ⟨_, h2⟩ := h.f
    rcases h2 with ⟨hv, hn⟩ | ⟨g, off, cap, hv, _⟩
    · exact ⟨none, 0, by rw [hv, hn]⟩
    · exact ⟨some ⟨g, off, none⟩, cap, hv⟩
  subst hv hvF
  have hgc0 : own w.heap.size = 0 := hj _ (Nat.le_refl _)
  have HK0 : Bx (ChR own w (w.alloc (Obj.cells (cfL k).toArray 29)) a hd c ax (.slice fb b.f.length fc) vH g (b.freeTo 0) p l (.slice vb l.length vc) w.heap.size k) := ⟨by
    have hbe : Below w.heap.size w (w.alloc (Obj.cells (cfL k).toArray 29)) := (Below.refl _ _).alloc (Nat.le_refl _) _
    exact ⟨h.below hbe, hp.fr hb16 (Fr.below hbe), hsl.below hbe, Box.cfg k hgc0 rfl, Fr.below hbe⟩⟩
  have HJ : Bx _ := ⟨hj⟩
  have HE : Bx _ := ⟨hE⟩
  have HBD : Bx _ := ⟨hBd⟩
  have HS : Bx _ := ⟨hS⟩
  have HSB : Bx _ := ⟨hSB⟩
  have HH : Bx _ := ⟨hH⟩
  have HOK : Bx _ := ⟨hok⟩
  have HON : Bx _ := ⟨hon⟩
  have HKD : Bx _ := ⟨hkd⟩
  clear h hp hsl hE hBd hS hSB hH hok hon hkd hbu hj hgc0
  simp only [Cf.val, cfL] at *
  go_enter Try.func21, Try.ntmps21
  go_wp2_with fail
  refine (needs_yes a _).mono ?_
  rintro e wz ⟨rfl, hz⟩
  subst hz
  obtain ⟨gc, Hgc⟩ : ∃ gc, Bx (w.heap.size = gc) := ⟨_, ⟨rfl⟩⟩
  rw [Hgc.out] at HK0 ⊢
  generalize w.alloc _ = w1 at *
  go_wp2_with fail
  go_loopg [11] b.f.length (fun r v11 wr => ∃ i : Nat, v11 = .int .i64 i ∧ i + r = b.f.length ∧ ChR own w wr a hd c ax (.slice fb b.f.length fc) vH g (b.freeTo i) p l (.slice vb l.length vc) gc k)
  case atStart => exact ⟨0, rfl, by omega, HK0.out⟩
  case round =>
    clear HK0
    obtain ⟨i, rfl, hi, hR⟩ := hrel
    have c24 : wr.cell? ⟨a, 24, none⟩ = some (.slice fb b.f.length fc) := hR.bo.cell 24 (by omega)
    by_cases hil : i < b.f.length
    · obtain ⟨r', rfl⟩ : ∃ r', gk = r' + 1 := ⟨gk - 1, by omega⟩
      have i1 : (i : Int) < b.f.length := by omega
      have hb1 := hR.bo
      have hlen := freeTo_len b i
      obtain ⟨gf, of, cap, hvv⟩ := Sl.some hb1.f (by omega)
      rw [hlen] at hvv
      injection hvv with hv1 _ hv3
      subst hv1 hv3
      have hb2 : BoIs own wr a hd c ax (.slice (some ⟨gf, of, none⟩) (b.freeTo i).f.length fc) vH g (b.freeTo i) := by rw [hlen]; exact hb1
      have hsl := hb2.f
      have hcap : b.f.length ≤ fc := by have := (Sl.at hsl).2.2.1; omega
      have f4 : wr.cell? ⟨gf, of + i * 6 + 4, none⟩ = some (.int .i64 (frAt (b.freeTo i).f i).first) := by
        have := (Sl.at hsl).2.2.2.1 (i * 6 + 4) _ (fqCells_get _ i 4 (by omega) (by omega))
        rw [← Nat.add_assoc] at this; exact this
      have f5 : wr.cell? ⟨gf, of + i * 6 + 5, none⟩ = some (.int .i64 (frAt (b.freeTo i).f i).soon) := by
        have := (Sl.at hsl).2.2.2.1 (i * 6 + 5) _ (fqCells_get _ i 5 (by omega) (by omega))
        rw [← Nat.add_assoc] at this; exact this
      have zf := (Sl.at hsl).2.2.2.2
      have tga := hb1.row.tag
      have tgf := (Sl.at hsl).1
      have n1 : ¬ a = gf := fun x => by rw [x, tgf] at tga; omega
      have n2 : ¬ gf = a := fun x => n1 x.symm
      obtain ⟨N1, K1⟩ := hb2.freeSet i (by omega)
      rw [hlen] at N1
      rw [freeTo_step b i hil] at N1
      have HN : Bx _ := ⟨hR.book hb16 (And.intro N1 K1)⟩
      clear hR hb1 hb2 hsl N1 K1 tga tgf hlen
      go_wp2_with fail
      go_roundg r'
      case rel => exact ⟨i + 1, by go_num, by omega, HN.out⟩
      case measure => omega
    · have i1 : ¬ (i : Int) < b.f.length := by omega
      have hii : i = b.f.length := by omega
      rw [hii] at hR
      have HR : Bx _ := ⟨hR⟩
      clear hR hii
      go_wp2_with fail
      clear c24
      go_loopg [12] l.length (fun r v12 wr => ∃ i : Nat, v12 = .int .i64 i ∧ i + r = l.length ∧ ChR own w wr a hd c ax (.slice fb b.f.length fc) vH g (b.freeTo b.f.length) p l (.slice vb l.length vc) gc k)
      case atStart => exact ⟨0, rfl, by omega, HR.out⟩
      case round =>
        clear HR i1 hi
        obtain ⟨i, rfl, hi, hR⟩ := hrel
        by_cases hil : i < l.length
        · obtain ⟨r', rfl⟩ : ∃ r', gk = r' + 1 := ⟨gk - 1, by omega⟩
          have i1 : (i : Int) < l.length := by omega
          obtain ⟨ge, off, cap, hvv⟩ := Sl.some hR.sl (by omega)
          injection hvv with hv1 _ hv3
          subst hv1 hv3
          have hcap : l.length ≤ vc := (Sl.at hR.sl).2.2.1
          have e1 := (evAt_of l hR.sl i hil).e1
          rw [HKD.out i hil] at e1
          have HR : Bx _ := ⟨hR⟩
          clear hR
          go_wp2_with fail
          refine (is_yes a _ _).mono ?_
          rintro e wy ⟨rfl, hy⟩
          subst hy
          go_wp2_with fail
          go_roundg r'
          case rel => exact ⟨i + 1, by go_num, by omega, HR.out⟩
          case measure => omega
        · have i1 : ¬ (i : Int) < l.length := by omega
          have hB := hR.bo
          have C14 : ∀ j, j < 10 → wr.cell? ⟨a, 14 + j, none⟩ = some (cfF b.on j) := fun j hj => (hB.cell (14 + j) (by omega)).trans (by
            match j, hj with | 0, _ => rfl | 1, _ => rfl | 2, _ => rfl | 3, _ => rfl | 4, _ => rfl | 5, _ => rfl | 6, _ => rfl | 7, _ => rfl | 8, _ => rfl | 9, _ => rfl)
          have c14 : wr.cell? ⟨a, 14, none⟩ = some (.int .i64 b.on.buckets) := C14 0 (by omega)
          have c15 : wr.cell? ⟨a, 15, none⟩ = some (.int .i64 b.on.quantum) := C14 1 (by omega)
          have c16 : wr.cell? ⟨a, 16, none⟩ = some (.int .i64 b.on.packets) := C14 2 (by omega)
          have c17 : wr.cell? ⟨a, 17, none⟩ = some (.int .i64 b.on.memory) := C14 3 (by omega)
          have c18 : wr.cell? ⟨a, 18, none⟩ = some (.int .i64 b.on.length) := C14 4 (by omega)
          have c19 : wr.cell? ⟨a, 19, none⟩ = some (.int .i64 b.on.target) := C14 5 (by omega)
          have c20 : wr.cell? ⟨a, 20, none⟩ = some (.int .i64 b.on.interval) := C14 6 (by omega)
          have c21 : wr.cell? ⟨a, 21, none⟩ = some (.int .i64 b.on.tau) := C14 7 (by omega)
          have c22 : wr.cell? ⟨a, 22, none⟩ = some (.bool b.on.ecn) := C14 8 (by omega)
          have c23 : wr.cell? ⟨a, 23, none⟩ = some (.string b.on.key) := C14 9 (by omega)
          have HB0 : Bx (Box own (wr.alloc (Obj.cells (cfL b.on).toArray 29)) wr.heap.size (cfL b.on)) := ⟨Box.cfg b.on (hR.fr.junk HJ.out _ (Nat.le_refl _)) rfl⟩
          have HR1 : Bx _ := ⟨hR.below hb16 ((Below.refl _ _).alloc (Nat.le_refl _) (Obj.cells (cfL b.on).toArray 29))⟩
          clear hR hB C14
          go_upto_region 13 with fail
          obtain ⟨gw, Hgw⟩ : ∃ gw, Bx (wr.heap.size = gw) := ⟨_, ⟨rfl⟩⟩
          rw [Hgw.out] at HB0 ⊢
          simp only [cfL] at HB0 HR1
          clear c14 c15 c16 c17 c18 c19 c20 c21 c22 c23
          generalize wr.alloc _ = w3 at *
          have hB := HR1.out.bo
          have c27 : w3.cell? ⟨a, 27, none⟩ = some (.bool b.old) := hB.cell 27 (by omega)
          have za := hB.frozen
          obtain ⟨N2, K2⟩ := hB.oldSet
          have HBw : Bx _ := ⟨HB0.out.fr K2 (by show ¬ (2 ≤ 0 ∧ 0 < 20); omega)⟩
          have HR2 : Bx (ChR own w _ a hd c ax (.slice fb b.f.length fc) vH g ((({ b.freeTo b.f.length with old := true } : Bo)).offTo 0) p l (.slice vb l.length vc) gc k) := ⟨by rw [offTo_zero]; exact HR1.out.book hb16 (And.intro N2 K2)⟩
          clear N2 K2 hB HR1 HB0
          go_upto_region 16 with fail
          clear c27 za
          generalize w3.setCell _ _ = w4 at *
          go_wp2_with fail
          go_loopg [14] NN (fun r v14 wr => ∃ i : Nat, v14 = .int .i64 i ∧ i + r = NN ∧ Box own wr gw [.int .i64 b.on.buckets, .int .i64 b.on.quantum, .int .i64 b.on.packets, .int .i64 b.on.memory, .int .i64 b.on.length, .int .i64 b.on.target, .int .i64 b.on.interval, .int .i64 b.on.tau, .bool b.on.ecn, .string b.on.key] ∧ ChR own w wr a hd c ax (.slice fb b.f.length fc) vH g (({ b.freeTo b.f.length with old := true } : Bo).offTo i) p l (.slice vb l.length vc) gc k)
          case atStart => exact ⟨0, rfl, by omega, HBw.out, HR2.out⟩
          case round =>
            clear HBw HR2 i1 hi
            obtain ⟨i, rfl, hi, hW, hR⟩ := hrel
            have hB := hR.bo
            have c36 : wr.cell? ⟨a, 36, none⟩ = some (.slice (some ⟨g 7, 0, none⟩) (b.on.buckets * b.on.buckets) (b.on.buckets * b.on.buckets)) := hB.cell 36 (by omega)
            rw [HNN.out] at c36
            by_cases hil : i < NN
            · obtain ⟨r', rfl⟩ : ∃ r', gk = r' + 1 := ⟨gk - 1, by omega⟩
              have i1 : (i : Int) < NN := by omega
              have pa : wr.cell? ⟨g 7, i * 3, none⟩ = some (.bool ((({ b.freeTo b.f.length with old := true } : Bo).offTo i).pairs i).on) := by
                have hh : i * 3 < b.on.buckets * b.on.buckets * 3 := by rw [HNN.out]; omega
                have := hB.pa.row.cell hh
                rw [(prF_at _ i).1] at this
                exact this
              have z7 := hB.pa.row.frozen
              have tga := hB.row.tag; have tg7 := hB.pa.tag
              have n1 : ¬ a = g 7 := fun x => by rw [← x, tga] at tg7; omega
              have n2 : ¬ g 7 = a := fun x => n1 x.symm
              obtain ⟨N1, K1⟩ := hB.paOn i false
              rw [offTo_step] at N1
              have HN : Bx _ := ⟨And.intro (hW.fr K1 (by show ¬ (2 ≤ 0 ∧ 0 < 20); omega)) (hR.book hb16 (And.intro N1 K1))⟩
              clear hW hR hB N1 K1 tga tg7
              go_wp2_with fail
              go_roundg r'
              case rel => exact ⟨i + 1, by go_num, by omega, HN.out.1, HN.out.2⟩
              case measure => omega
            · have i1 : ¬ (i : Int) < NN := by omega
              have hii : i = NN := by omega
              rw [hii] at hR
              have HR : Bx (ChR own w wr a hd c ax (.slice fb b.f.length fc) vH g ((({ b.freeTo b.f.length with old := true } : Bo).offTo NN).useTo 0) p l (.slice vb l.length vc) gc k) := ⟨by rw [useTo_zero]; exact hR⟩
              have HW : Bx _ := ⟨hW⟩
              clear hR hW hB hii
              go_wp2_with fail
              clear c36
              go_loopg [15] b.on.buckets (fun r v15 wr => ∃ i : Nat, v15 = .int .i64 i ∧ i + r = b.on.buckets ∧ Box own wr gw [.int .i64 b.on.buckets, .int .i64 b.on.quantum, .int .i64 b.on.packets, .int .i64 b.on.memory, .int .i64 b.on.length, .int .i64 b.on.target, .int .i64 b.on.interval, .int .i64 b.on.tau, .bool b.on.ecn, .string b.on.key] ∧ ChR own w wr a hd c ax (.slice fb b.f.length fc) vH g ((({ b.freeTo b.f.length with old := true } : Bo).offTo NN).useTo i) p l (.slice vb l.length vc) gc k)
              case atStart => exact ⟨0, rfl, by omega, HW.out, HR.out⟩
              case round =>
                clear HR HW i1 hi
                obtain ⟨i, rfl, hi, hW, hR⟩ := hrel
                have hB := hR.bo
                have w0 : wr.cell? ⟨gw, 0, none⟩ = some (.int .i64 b.on.buckets) := hW.cells 0 _ rfl
                by_cases hil : i < b.on.buckets
                · obtain ⟨r', rfl⟩ : ∃ r', gk = r' + 1 := ⟨gk - 1, by omega⟩
                  have i1 : (i : Int) < b.on.buckets := by omega
                  have c31 : wr.cell? ⟨a, 31, none⟩ = some (.slice (some ⟨g 2, 0, none⟩) b.on.buckets b.on.buckets) := hB.cell 31 (by omega)
                  have c32 : wr.cell? ⟨a, 32, none⟩ = some (.slice (some ⟨g 3, 0, none⟩) b.on.buckets b.on.buckets) := hB.cell 32 (by omega)
                  have tu := hB.tu.row.cell (i := i) (hil)
                  have us := hB.us.row.cell (i := i) (hil)
                  have z2 := hB.tu.row.frozen
                  have z3 := hB.us.row.frozen
                  have tga := hB.row.tag; have tg2 := hB.tu.tag; have tg3 := hB.us.tag
                  have n1 : ¬ a = g 2 := fun x => by rw [← x, tga] at tg2; omega
                  have n2 : ¬ g 2 = a := fun x => n1 x.symm
                  have n3 : ¬ a = g 3 := fun x => by rw [← x, tga] at tg3; omega
                  have n4 : ¬ g 3 = a := fun x => n3 x.symm
                  have n5 : ¬ g 2 = g 3 := fun x => by rw [x, tg3] at tg2; omega
                  have n6 : ¬ g 3 = g 2 := fun x => n5 x.symm
                  obtain ⟨N1, K1⟩ := hB.usSet i true
                  obtain ⟨N2, K2⟩ := N1.tuSet i 0
                  have N3 := N2.pairs_eq (useTo_step (({ b.freeTo b.f.length with old := true } : Bo).offTo NN) i)
                  have HN : Bx _ := ⟨And.intro (hW.fr (K1.trans K2) (by show ¬ (2 ≤ 0 ∧ 0 < 20); omega)) (hR.book hb16 (And.intro N3 (K1.trans K2)))⟩
                  clear hW hR hB N1 N2 N3 K1 K2 tga tg2 tg3
                  go_wp2_with fail
                  go_roundg r'
                  case rel => exact ⟨i + 1, by go_num, by omega, HN.out.1, HN.out.2⟩
                  case measure => omega
                · have i1 : ¬ (i : Int) < b.on.buckets := by omega
                  have hii : i = b.on.buckets := by omega
                  rw [hii] at hR
                  have HB : Bx (BoIs own wr a hd c ax (.slice fb b.f.length fc) vH g b.changes) := ⟨by
                    have h1 := hR.bo
                    rw [← HNN.out] at h1
                    exact h1.changed⟩
                  have HR : Bx _ := ⟨hR⟩
                  clear hR hW hB hii
                  have HK : Bx (ChR own w wr a hd c ax (.slice fb b.f.length fc) vH g (b.changes.events (l.take 0)) p l (.slice vb l.length vc) gc k) := ⟨⟨HB.out, HR.out.pt, HR.out.sl, HR.out.bx, HR.out.fr⟩⟩
                  clear HB HR
                  go_wp2_with fail
                  clear w0
                  go_loopg [16] l.length (fun r v16 wr => ∃ i : Nat, v16 = .int .i64 i ∧ i + r = l.length ∧ ∃ vF vH g, ChR own w wr a hd c ax vF vH g (b.changes.events (l.take i)) p l (.slice vb l.length vc) gc k)
                  case atStart => exact ⟨0, rfl, by omega, _, _, _, HK.out⟩
                  case round =>
                    clear HK i1 hi
                    obtain ⟨i, rfl, hi, vF, vH, g, hR⟩ := hrel
                    have c2 : wr.cell? ⟨a, 2, none⟩ = some (.bool false) := hR.bo.cell 2 (by omega)
                    by_cases hil : i < l.length
                    · obtain ⟨r', rfl⟩ : ∃ r', gk = r' + 1 := ⟨gk - 1, by omega⟩
                      have i2 : (i : Int) < l.length := by omega
                      have hs2 := hR.sl
                      obtain ⟨ge, off, cap, hvv⟩ := Sl.some hs2 (by omega)
                      injection hvv with hv1 _ hv3
                      subst hv1 hv3
                      have hcap : l.length ≤ vc := (Sl.at hs2).2.2.1
                      have hE1 := fun hd => (HE.out hd).at i hil
                      have hev := event_any own a hd c ax p ge (off + i * 5) l[i] (b.changes.events (l.take i)) wr ⟨_, _, _, hR.bo⟩ hR.pt (evAt_of l hs2 i hil) (Sl.at hs2).1 (Sl.at hs2).2.1 hE1 (HBD.out i hil) HH.out
                      rw [← events_take b.changes l i hil] at hev
                      have HEV : Bx _ := ⟨hev⟩
                      have HR : Bx _ := ⟨hR⟩
                      clear hev hE1 hs2 hR
                      go_wp2_with fail
                      refine HEV.out.mono ?_
                      rintro e w3 ⟨rfl, hb3, hf3⟩
                      obtain ⟨vF3, vH3, g3, hb3⟩ := hb3
                      have HN : Bx (ChR own w w3 a hd c ax vF3 vH3 g3 (b.changes.events (l.take (i + 1))) p l (.slice (some ⟨ge, off, none⟩) l.length vc) gc k) := ⟨⟨hb3, HR.out.pt.fr hb16 hf3, HR.out.sl.fr hf3 (by show ¬ (2 ≤ 50 ∧ 50 < 20); omega), HR.out.bx.fr hf3 (by show ¬ (2 ≤ 0 ∧ 0 < 20); omega), HR.out.fr.trans hf3⟩⟩
                      clear hb3 hf3 HEV c2 HR
                      go_wp2_with fail
                      go_roundg r'
                      case rel => exact ⟨i + 1, by go_num, by omega, _, _, _, HN.out⟩
                      case measure => omega
                    · have i2 : ¬ (i : Int) < l.length := by omega
                      have i3 : decide ((i : Int) < l.length) = false := decide_eq_false i2
                      have hii : i = l.length := by omega
                      rw [hii, List.take_length] at hR
                      have hB := hR.bo
                      have eon : (b.changes.events l).on = b.on := events_on l _
                      have C14 : ∀ j, j < 10 → wr.cell? ⟨a, 14 + j, none⟩ = some (cfF b.on j) := fun j hj => (hB.cell (14 + j) (by omega)).trans (by
                        rw [← eon]
                        match j, hj with | 0, _ => rfl | 1, _ => rfl | 2, _ => rfl | 3, _ => rfl | 4, _ => rfl | 5, _ => rfl | 6, _ => rfl | 7, _ => rfl | 8, _ => rfl | 9, _ => rfl)
                      have c14 : wr.cell? ⟨a, 14, none⟩ = some (.int .i64 b.on.buckets) := C14 0 (by omega)
                      have c15 : wr.cell? ⟨a, 15, none⟩ = some (.int .i64 b.on.quantum) := C14 1 (by omega)
                      have c16 : wr.cell? ⟨a, 16, none⟩ = some (.int .i64 b.on.packets) := C14 2 (by omega)
                      have c17 : wr.cell? ⟨a, 17, none⟩ = some (.int .i64 b.on.memory) := C14 3 (by omega)
                      have c18 : wr.cell? ⟨a, 18, none⟩ = some (.int .i64 b.on.length) := C14 4 (by omega)
                      have c19 : wr.cell? ⟨a, 19, none⟩ = some (.int .i64 b.on.target) := C14 5 (by omega)
                      have c20 : wr.cell? ⟨a, 20, none⟩ = some (.int .i64 b.on.interval) := C14 6 (by omega)
                      have c21 : wr.cell? ⟨a, 21, none⟩ = some (.int .i64 b.on.tau) := C14 7 (by omega)
                      have c22 : wr.cell? ⟨a, 22, none⟩ = some (.bool b.on.ecn) := C14 8 (by omega)
                      have c23 : wr.cell? ⟨a, 23, none⟩ = some (.string b.on.key) := C14 9 (by omega)
                      have k0 : wr.cell? ⟨gc, 0, none⟩ = some (.int .i64 k.buckets) := hR.bx.cells 0 _ rfl
                      have k1 : wr.cell? ⟨gc, 1, none⟩ = some (.int .i64 k.quantum) := hR.bx.cells 1 _ rfl
                      have k2 : wr.cell? ⟨gc, 2, none⟩ = some (.int .i64 k.packets) := hR.bx.cells 2 _ rfl
                      have k3 : wr.cell? ⟨gc, 3, none⟩ = some (.int .i64 k.memory) := hR.bx.cells 3 _ rfl
                      have k4 : wr.cell? ⟨gc, 4, none⟩ = some (.int .i64 k.length) := hR.bx.cells 4 _ rfl
                      have k5 : wr.cell? ⟨gc, 5, none⟩ = some (.int .i64 k.target) := hR.bx.cells 5 _ rfl
                      have k6 : wr.cell? ⟨gc, 6, none⟩ = some (.int .i64 k.interval) := hR.bx.cells 6 _ rfl
                      have k7 : wr.cell? ⟨gc, 7, none⟩ = some (.int .i64 k.tau) := hR.bx.cells 7 _ rfl
                      have k8 : wr.cell? ⟨gc, 8, none⟩ = some (.bool k.ecn) := hR.bx.cells 8 _ rfl
                      have k9 : wr.cell? ⟨gc, 9, none⟩ = some (.string k.key) := hR.bx.cells 9 _ rfl
                      have tga := hB.row.tag; have tgc := hR.bx.tag
                      have n1 : ¬ a = gc := fun x => by rw [x, tgc] at tga; omega
                      have n2 : ¬ gc = a := fun x => n1 x.symm
                      have za := hB.frozen
                      clear tga tgc
                      have hr2 := ((((((((((hB.row.set 14 (.int .i64 k.buckets)).set 15 (.int .i64 k.quantum)).set 16 (.int .i64 k.packets)).set 17 (.int .i64 k.memory)).set 18 (.int .i64 k.length)).set 19 (.int .i64 k.target)).set 20 (.int .i64 k.interval)).set 21 (.int .i64 k.tau)).set 22 (.bool k.ecn)).set 23 (.string k.key))
                      have kk : Fr (fun t => t = 2) own own wr ((((((((((wr.setCell ⟨a, 14, none⟩ (.int .i64 k.buckets)).setCell ⟨a, 15, none⟩ (.int .i64 k.quantum)).setCell ⟨a, 16, none⟩ (.int .i64 k.packets)).setCell ⟨a, 17, none⟩ (.int .i64 k.memory)).setCell ⟨a, 18, none⟩ (.int .i64 k.length)).setCell ⟨a, 19, none⟩ (.int .i64 k.target)).setCell ⟨a, 20, none⟩ (.int .i64 k.interval)).setCell ⟨a, 21, none⟩ (.int .i64 k.tau)).setCell ⟨a, 22, none⟩ (.bool k.ecn)).setCell ⟨a, 23, none⟩ (.string k.key)) := (((((((((((Fr.refl _ own wr).setCell a 14 (.int .i64 k.buckets) hB.row.tag).setCell a 15 (.int .i64 k.quantum) hB.row.tag).setCell a 16 (.int .i64 k.packets) hB.row.tag).setCell a 17 (.int .i64 k.memory) hB.row.tag).setCell a 18 (.int .i64 k.length) hB.row.tag).setCell a 19 (.int .i64 k.target) hB.row.tag).setCell a 20 (.int .i64 k.interval) hB.row.tag).setCell a 21 (.int .i64 k.tau) hB.row.tag).setCell a 22 (.bool k.ecn) hB.row.tag).setCell a 23 (.string k.key) hB.row.tag)
                      have kB := kk.mono (T' := BTag) (fun t e => by rw [e]; exact ⟨by omega, by omega⟩)
                      have HROW : Bx _ := ⟨hr2⟩
                      have HBO : Bx _ := ⟨And.intro (hB.f.fr kk (by show ¬ 10 = 2; omega)) (And.intro hB.th (hB.here.fr kk (fun e => hB.n8 2 (by omega) (by omega) e.symm)))⟩
                      have HREST : Bx _ := ⟨And.intro (hR.pt.fr hb16 kB) (hR.fr.trans kB)⟩
                      clear hr2 kk kB hB hR C14 eon hii
                      go_upto_region 33 with fail
                      clear c2 za n1 n2 c14 c15 c16 c17 c18 c19 c20 c21 c22 c23 k0 k1 k2 k3 k4 k5 k6 k7 k8 k9
                      generalize World.setCell _ ⟨a, 23, none⟩ _ = w5 at *
                      have HAN : Bx _ := ⟨anew_any own a hd c ax vF vH g ({ b.changes.events l with on := k } : Bo) _ w5 HROW.out (fun i hi => by
                        match i, hi with
                        | 0, _ => exact rfl
                        | 1, _ => exact rfl
                        | 2, _ => exact rfl
                        | 3, _ => exact rfl
                        | 4, _ => exact rfl
                        | 5, _ => exact rfl
                        | 6, _ => exact rfl
                        | 7, _ => exact rfl
                        | 8, _ => exact rfl
                        | 9, _ => exact rfl
                        | 10, _ => exact rfl
                        | 11, _ => exact rfl
                        | 12, _ => exact rfl
                        | 13, _ => exact rfl
                        | 14, _ => exact rfl
                        | 15, _ => exact rfl
                        | 16, _ => exact rfl
                        | 17, _ => exact rfl
                        | 18, _ => exact rfl
                        | 19, _ => exact rfl
                        | 20, _ => exact rfl
                        | 21, _ => exact rfl
                        | 22, _ => exact rfl
                        | 23, _ => exact rfl
                        | 24, _ => exact rfl
                        | 25, _ => exact rfl
                        | 26, _ => exact rfl
                        | 27, _ => exact rfl
                        | 28, _ => exact rfl
                        | m + 29, hm => exact absurd hm (by omega)) HBO.out.1 (g 8) HBO.out.2.1 HBO.out.2.2 (by show k.buckets ≤ 16; rw [HON.out]; exact hb16)⟩
                      clear HROW HBO
                      go_wp2_with fail
                      refine HAN.out.mono ?_
                      rintro e w6 ⟨rfl, own6, hb6, hf6⟩
                      have HST : Bx _ := ⟨stands_any own6 a hd c ax p ((b.changes.events l).news k) w6 hb6 (HREST.out.1.fr hb16 hf6) HOK.out HON.out HS.out HSB.out⟩
                      have HF6 : Bx _ := ⟨HREST.out.2.trans hf6⟩
                      clear hb6 hf6 HAN HREST
                      go_wp2_with fail
                      refine HST.out.mono ?_
                      rintro e w7 ⟨rfl, own7, hb7, hf7⟩
                      have HZ : Bx (BoAt own7 w7 a hd c ax (((b.changes.events l).news k).stands p.busy) ∧ Fr BTag own own7 w w7) := ⟨hb7, HF6.out.trans hf7⟩
                      clear hb7 hf7 HST HF6
                      go_wp2_with fail
                      go_end0
                      exact ⟨rfl, own7, HZ.out.1, HZ.out.2⟩

end Go.Proofs.Ytnkicbopebgppaa

/-! The law's own sum; what a marked frame is. -/
namespace Go.Proofs.Ytnkicbopebgppaa
open Go.RowKit Fl

theorem fold16_add (n b : Nat) (hb : b ≤ 65535) : fold16 (n + b) = if 65535 < fold16 n + b then fold16 n + b - 65535 else fold16 n + b := by
  by_cases h0 : n = 0
  · subst h0
    have e : fold16 0 = 0 := rfl
    rw [e, Nat.zero_add, fold16_small b hb, if_neg (by omega)]
  · unfold fold16
    rw [if_neg h0, if_neg (by omega)]
    split <;> omega

set_option maxHeartbeats 800000 in
theorem ksum_any (s : ByteArray) (F : Nat) (w : World) (hs : s.size ≤ 1000) (HF : Bx (fold16 (wsum s (s.size / 2)) = F)) :
    Calls Try.prog 42 #[.string s] w fun e w' => e = .returned (.int .i64 F) ∧ ∃ m, w' = w.drewN m := by
  go_enter Try.func42, Try.ntmps42
  go_wp2_with fail
  go_loopw [3, 4] (fun v i wr => ∃ q m : Nat, q % 2 = 0 ∧ q ≤ s.size ∧ i = .int .i64 (q : Nat) ∧ v = .int .i64 (fold16 (wsum s (q / 2)) : Nat) ∧ wr = w.drewN m) (fun _ i _ => s.size - (intOf i).toNat)
  case atStart => exact ⟨0, 0, rfl, by omega, rfl, rfl, rfl⟩
  case round =>
    obtain ⟨q, m, hq2, hk, rfl, rfl, rfl⟩ := hrel
    have hle := fold16_le (wsum s (q / 2))
    by_cases hlt : q + 1 < s.size
    · have HST : Bx _ := ⟨fold16_add (wsum s (q / 2)) (be16 s q) (by have := be16_lt s q; omega)⟩
      have HW : Bx (wsum s ((q + 2) / 2) = wsum s (q / 2) + be16 s q) := ⟨by rw [show (q + 2) / 2 = q / 2 + 1 by omega, wsum, show 2 * (q / 2) = q by omega]⟩
      have HBE : Bx (be16 s q = 256 * byteAt s q + byteAt s (q + 1)) := ⟨rfl⟩
      obtain ⟨V, HV⟩ : ∃ V, Bx (fold16 (wsum s (q / 2)) = V) := ⟨_, ⟨rfl⟩⟩
      rw [HV.out] at HST hle ⊢
      have h2 : q < s.size := by omega
      have h3 : q + 1 < s.size := by omega
      have hx1 := byteAt_lt s q
      have hy1 := byteAt_lt s (q + 1)
      have j1 : (q : Int) < s.size := by omega
      have j2 : (q : Int) + 1 < s.size := by omega
      obtain ⟨b, eb, hb, Hb⟩ : ∃ b : Nat, IntKind.i64.wrap ((q : Int) + 1) = (b : Int) ∧ b < s.size ∧ Bx (q + 1 = b) := ⟨q + 1, by rw [← wrap_i64_in (q + 1) (by omega)]; congr 1, h3, ⟨rfl⟩⟩
      have hb2 : (b : Int) < s.size := by omega
      obtain ⟨x, hx, ex, Hx⟩ : ∃ x : Nat, x < 256 ∧ IntKind.i64.wrap ((s[q].toNat : Nat) : Int) = x ∧ Bx (byteAt s q = x) := ⟨byteAt s q, hx1, by rw [byteAt_eq]; exact wrap_i64_in _ (by omega), ⟨rfl⟩⟩
      obtain ⟨y, hy, ey, Hy⟩ : ∃ x : Nat, x < 256 ∧ IntKind.i64.wrap (((s[b]'hb).toNat : Nat) : Int) = x ∧ Bx (byteAt s b = x) := ⟨byteAt s b, by rw [← Hb.out]; exact hy1, by rw [byteAt_eq]; exact wrap_i64_in _ (by have := byteAt_lt s b; omega), ⟨rfl⟩⟩
      rw [Hb.out, Hx.out, Hy.out] at HBE
      rw [HBE.out] at HST HW
      clear hx1 hy1 HBE
      go_wp2_with fail
      go_quiet (fail)
      by_cases hbig : 65535 < V + (256 * x + y)
      · have i1 : (65535 : Int) < V + x * 256 + y := by omega
        go_wp2_with fail
        refine ⟨⟨q + 2, _, by omega, by omega, by go_num, ?_, rfl⟩, ?_⟩
        · rw [HW.out, HST.out, if_pos hbig]; congr 1; omega
        · simp [intOf]; omega
      · have i1 : ¬ (65535 : Int) < V + x * 256 + y := by omega
        go_wp2_with fail
        refine ⟨⟨q + 2, _, by omega, by omega, by go_num, ?_, rfl⟩, ?_⟩
        · rw [HW.out, HST.out, if_neg hbig]; congr 1; omega
        · simp [intOf]; omega
    · have hk2 : s.size / 2 = q / 2 := by omega
      have HF2 : Bx (fold16 (wsum s (q / 2)) = F) := ⟨by rw [← hk2]; exact HF.out⟩
      rw [HF2.out]
      clear hk2
      go_wp2_with fail
      go_ret
      exact ⟨rfl, m, rfl⟩

/-- Two bytes put anew. -/
theorem wsum_put (s : ByteArray) (i a b : Nat) (hi : i % 2 = 0) (ha : a < 256) (hb : b < 256) (h : i + 1 < s.size) : ∀ n, wsum (put (put s i a) (i + 1) b) n + (if i / 2 < n then be16 s i else 0) = wsum s n + (if i / 2 < n then 256 * a + b else 0)
  | 0 => rfl
  | n + 1 => by
    have ih := wsum_put s i a b hi ha hb h n
    have hB : ∀ j, byteAt (put (put s i a) (i + 1) b) j = if j = i + 1 then b else if j = i then a else byteAt s j := by
      intro j
      rw [byteAt_put _ _ _ _ hb (by rw [put_size]; exact h), byteAt_put _ _ _ _ ha (by omega)]
    have e1 : be16 (put (put s i a) (i + 1) b) (2 * n) = if 2 * n = i then 256 * a + b else be16 s (2 * n) := by
      unfold be16
      rw [hB, hB]
      by_cases e : 2 * n = i
      · rw [if_neg (by omega), if_pos e, if_pos (by omega), if_pos e]
      · rw [if_neg (by omega), if_neg e, if_neg (by omega), if_neg (by omega), if_neg e]
    rw [wsum, wsum, e1]
    by_cases e : 2 * n = i
    · rw [if_pos e, if_pos (show i / 2 < n + 1 by omega), if_pos (show i / 2 < n + 1 by omega), e]
      rw [if_neg (show ¬ i / 2 < n by omega), if_neg (show ¬ i / 2 < n by omega)] at ih
      omega
    · rw [if_neg e]
      by_cases e2 : i / 2 < n
      · rw [if_pos (show i / 2 < n + 1 by omega), if_pos (show i / 2 < n + 1 by omega)]
        rw [if_pos e2, if_pos e2] at ih
        omega
      · rw [if_neg (show ¬ i / 2 < n + 1 by omega), if_neg (show ¬ i / 2 < n + 1 by omega)]
        rw [if_neg e2, if_neg e2] at ih
        omega

/-- With the rest put in, the sum is full. -/
theorem sum_full (u : ByteArray) (n : Nat) (hn : 5 < n) (hu : 12 ≤ u.size) (h10 : byteAt u 10 = 0) (h11 : byteAt u 11 = 0) (r : Nat) (hr : r = 65535 - fold16 (wsum u n)) : fold16 (wsum (put (put u 10 (r / 256)) 11 (r % 256)) n) = 65535 := by
  have hle := fold16_le (wsum u n)
  have h := wsum_put u 10 (r / 256) (r % 256) (by omega) (by omega) (by omega) (by omega) n
  rw [show 10 + 1 = 11 from rfl] at h
  rw [if_pos (show 10 / 2 < n by omega), if_pos (show 10 / 2 < n by omega)] at h
  have e : be16 u 10 = 0 := by unfold be16; rw [h10, h11]
  rw [e] at h
  have e2 : wsum (put (put u 10 (r / 256)) 11 (r % 256)) n = wsum u n + r := by omega
  rw [e2, fold16_full]
  unfold fold16 at hr hle
  split at hr <;> omega

theorem extract_same (s t : ByteArray) (a b : Nat) (hs : s.size = t.size) (hb : b ≤ s.size) (h : ∀ i, a ≤ i → i < b → byteAt s i = byteAt t i) : s.extract a b = t.extract a b := by
  refine bytes_ext _ _ (by rw [ByteArray.size_extract, ByteArray.size_extract, hs]) (fun i hi => ?_)
  rw [ByteArray.size_extract] at hi
  rw [byteAt_extract s a b i hb (by omega), byteAt_extract t a b i (by omega) (by omega)]
  exact h _ (by omega) (by omega)

/-- All that is asked of a marked frame of IPv4. -/
theorem mark4_is (s : ByteArray) (h : versionOf s = 4) : byteAt s 0 / 16 = 4 ∧ 20 ≤ s.size ∧ 20 ≤ byteAt s 0 % 16 * 4 ∧ byteAt s 0 % 16 * 4 ≤ s.size ∧ fold16 (wsum s (byteAt s 0 % 16 * 4 / 2)) = 65535 ∧ fold16 (wsum (mark4 s) (byteAt s 0 % 16 * 4 / 2)) = 65535 ∧ (mark4 s).size = s.size ∧ byteAt (mark4 s) 1 = byteAt s 1 ||| 3 ∧
    s.extract 0 1 = (mark4 s).extract 0 1 ∧ s.extract 2 10 = (mark4 s).extract 2 10 ∧ s.extract 12 s.size = (mark4 s).extract 12 s.size := by
  have hv : v4B s = true := by
    unfold versionOf at h
    split at h
    · assumption
    · split at h <;> omega
  simp only [v4B, decide_eq_true_eq] at hv
  obtain ⟨k1, k2, k3, k4, k5, k6⟩ := hv
  have hor : byteAt s 1 ||| 3 < 256 := Nat.or_lt_two_pow (n := 8) (byteAt_lt s 1) (by decide)
  have hus : (unsummed s).size = s.size := by simp only [unsummed, put_size]
  have hsz : (mark4 s).size = s.size := by simp only [mark4, unsummed, put_size]
  have hU : ∀ j, byteAt (unsummed s) j = if j = 11 then 0 else if j = 10 then 0 else if j = 1 then byteAt s 1 ||| 3 else byteAt s j := by
    intro j
    unfold unsummed
    rw [byteAt_put _ _ _ _ (by omega) (by rw [put_size, put_size]; omega), byteAt_put _ _ _ _ (by omega) (by rw [put_size]; omega), byteAt_put _ _ _ _ hor (by omega)]
  have hr : restOf s ≤ 65535 := by unfold restOf; omega
  have hM : ∀ j, j ≠ 10 → j ≠ 11 → byteAt (mark4 s) j = if j = 1 then byteAt s 1 ||| 3 else byteAt s j := by
    intro j h1 h2
    unfold mark4
    rw [byteAt_put _ _ _ _ (by omega) (by rw [put_size, hus]; omega), byteAt_put _ _ _ _ (by omega) (by rw [hus]; omega), if_neg h2, if_neg h1, hU, if_neg h2, if_neg h1]
  refine ⟨k2, k1, k3, by omega, k6, ?_, hsz, ?_, ?_, ?_, ?_⟩
  · exact sum_full (unsummed s) _ (by omega) (by omega) (by rw [hU]; rfl) (by rw [hU]; rfl) (restOf s) rfl
  · rw [hM 1 (by omega) (by omega), if_pos rfl]
  · exact extract_same _ _ _ _ hsz.symm (by omega) (fun i h1 h2 => by rw [hM i (by omega) (by omega), if_neg (by omega)])
  · exact extract_same _ _ _ _ hsz.symm (by omega) (fun i h1 h2 => by rw [hM i (by omega) (by omega), if_neg (by omega)])
  · exact extract_same _ _ _ _ hsz.symm (by omega) (fun i h1 h2 => by rw [hM i (by omega) (by omega), if_neg (by omega)])

/-- All that is asked of a marked frame of IPv6. -/
theorem mark6_is (s : ByteArray) (h : versionOf s = 6) : byteAt s 0 / 16 = 6 ∧ 40 ≤ s.size ∧ (mark6 s).size = s.size ∧ byteAt (mark6 s) 1 = byteAt s 1 ||| 48 ∧ s.extract 0 1 = (mark6 s).extract 0 1 ∧ s.extract 2 s.size = (mark6 s).extract 2 s.size := by
  have hv : 40 ≤ s.size ∧ byteAt s 0 / 16 = 6 := by
    unfold versionOf at h
    split at h
    · omega
    · split at h
      · rename_i h6
        unfold flow6 at h6
        split at h6
        · rename_i hh; exact ⟨hh.1, hh.2.1⟩
        · simp at h6
      · omega
  have hor : byteAt s 1 ||| 48 < 256 := Nat.or_lt_two_pow (n := 8) (byteAt_lt s 1) (by decide)
  have hsz : (mark6 s).size = s.size := by simp only [mark6, put_size]
  have hM : ∀ j, byteAt (mark6 s) j = if j = 1 then byteAt s 1 ||| 48 else byteAt s j := by
    intro j
    unfold mark6
    rw [byteAt_put _ _ _ _ hor (by omega)]
  refine ⟨hv.2, hv.1, hsz, by rw [hM, if_pos rfl], ?_, ?_⟩
  · exact extract_same _ _ _ _ hsz.symm (by omega) (fun i h1 h2 => by rw [hM i, if_neg (by omega)])
  · exact extract_same _ _ _ _ hsz.symm (by omega) (fun i h1 h2 => by rw [hM i, if_neg (by omega)])

end Go.Proofs.Ytnkicbopebgppaa

/-! A marked frame is an honest one. -/
namespace Go.Proofs.Ytnkicbopebgppaa
open Go.RowKit Fl

set_option maxRecDepth 100000 in
set_option maxHeartbeats 3200000 in
theorem honest4 (s t : ByteArray) (w : World) (hs : s.size ≤ 200) (h4 : versionOf s = 4) (hc : (byteAt s 1 % 4 == 1 || byteAt s 1 % 4 == 2) = true) (ht : t = mark4 s) :
    Calls Try.prog 56 #[.string s, .string t] w fun e w' => e = .returned (.bool true) ∧ ∃ m, w' = w.drewN m := by
  obtain ⟨k1, k2, k3, k4, k5, k6, k7, k8, k9, k10, k11⟩ := mark4_is s h4
  rw [← ht] at k6 k7 k8 k9 k10 k11
  clear ht h4
  have h0 : 0 < s.size := by omega
  have h1 : 1 < s.size := by omega
  have h1t : 1 < t.size := by omega
  obtain ⟨x, hx, ex, Hx⟩ : ∃ x : Nat, x < 256 ∧ s[1].toNat = x ∧ Bx (byteAt s 1 = x) := ⟨byteAt s 1, byteAt_lt _ _, by rw [byteAt_eq], ⟨rfl⟩⟩
  obtain ⟨x0, hx0, e0, H0⟩ : ∃ x : Nat, x < 256 ∧ s[0].toNat = x ∧ Bx (byteAt s 0 = x) := ⟨byteAt s 0, byteAt_lt _ _, by rw [byteAt_eq], ⟨rfl⟩⟩
  rw [Hx.out] at hc k8
  rw [H0.out] at k1 k3 k4 k5 k6
  obtain ⟨z, hz, ezz, Hz⟩ : ∃ z : Nat, z < 256 ∧ bits .or .u8 (x : Int) 3 = z ∧ Bx (x ||| 3 = z) := ⟨x ||| 3, (or_u8 x 3 hx (by decide)).2, (or_u8 x 3 hx (by decide)).1, ⟨rfl⟩⟩
  rw [Hz.out] at k8
  have et : t[1].toNat = z := by rw [byteAt_eq]; exact k8
  clear k8
  obtain ⟨y, hy, ey, Hy⟩ : ∃ y : Nat, y < 4 ∧ bits .and .u8 (x : Int) 3 = y ∧ Bx (x % 4 = y) := ⟨x % 4, by omega, and3 x hx, ⟨rfl⟩⟩
  rw [Hy.out] at hc
  obtain ⟨l, hl, el, Hl⟩ : ∃ l : Nat, l < 16 ∧ bits .and .u8 (x0 : Int) 15 = l ∧ Bx (x0 % 16 = l) := ⟨_, Nat.mod_lt _ (by decide), and15 x0 hx0, ⟨rfl⟩⟩
  obtain ⟨g, eg, Hg⟩ : ∃ g : Nat, 4 * (l : Int) = g ∧ Bx (l * 4 = g) := ⟨l * 4, by omega, ⟨rfl⟩⟩
  have eg2 : (l : Int) * 4 = g := by omega
  rw [Hl.out, Hg.out] at k3 k4 k5 k6
  have hg : g ≤ 60 := by have := Hg.out; omega
  have hgI : (g : Int) ≤ s.size := by omega
  have hgT : (g : Int) ≤ t.size := by omega
  have HA : Bx (fold16 (wsum (s.extract 0 g) ((s.extract 0 g).size / 2)) = 65535) := ⟨by
    rw [ByteArray.size_extract, show min g s.size - 0 = g by omega, wsum_extract s _ (by omega) _ (by omega)]
    exact k5⟩
  have HB : Bx (fold16 (wsum (t.extract 0 g) ((t.extract 0 g).size / 2)) = 65535) := ⟨by
    rw [ByteArray.size_extract, show min g t.size - 0 = g by omega, wsum_extract t _ (by omega) _ (by omega)]
    exact k6⟩
  clear k5 k6
  have t4 : ((x0 : Int) / 16 != 4) = false := by simp; omega
  have t4b : (x0 : Int) / 16 = 4 := by omega
  have g20 : ¬ (g : Int) < 20 := by omega
  have g20b : decide ((g : Int) < 20) = false := decide_eq_false g20
  have gs : ¬ (s.size : Int) < g := by omega
  have gsb : decide ((s.size : Int) < g) = false := decide_eq_false gs
  have s20 : ¬ (s.size : Int) < 20 := by omega
  have s20b : decide ((s.size : Int) < 20) = false := decide_eq_false s20
  have eqs : ((s.size : Int) != (t.size : Int)) = false := by simp; omega
  have i12 : (12 : Int) ≤ s.size := by omega
  have i10 : (10 : Int) ≤ s.size := by omega
  have i12t : (12 : Int) ≤ t.size := by omega
  have i10t : (10 : Int) ≤ t.size := by omega
  have i1 : (1 : Int) < s.size := by omega
  have i1t : (1 : Int) < t.size := by omega
  have sl1 := slice_run_l Try.prog 9 Try.underlying9 s 12 12 rfl (by omega)
  have sl2 := slice_run_l Try.prog 9 Try.underlying9 t 12 12 rfl (by omega)
  rw [k7] at sl2
  rw [k7] at eqs
  rw [← k11] at sl2
  have k9' := k9.symm
  have k10' := k10.symm
  clear k9 k10 k11
  have hyy : y = 1 ∨ y = 2 := by simpa using hc
  clear hc
  go_enter Try.func56, Try.ntmps56
  go_wp2_with fail
  refine (ksum_any _ _ _ (by rw [ByteArray.size_extract]; omega) HA).mono ?_
  rintro e w1 ⟨rfl, m1, rfl⟩
  clear HA
  go_wp2_with fail
  refine (ksum_any _ _ _ (by rw [ByteArray.size_extract]; omega) HB).mono ?_
  rintro e w2 ⟨rfl, m2, rfl⟩
  clear HB
  go_wp2_with fail
  go_quiet (fail)
  go_wp2_with fail
  rcases hyy with rfl | rfl
  · go_quiet (fail)
    go_wp2_with fail
    go_ret
    exact ⟨rfl, _, by rw [World.drewN_drewN, World.drewN_drewN]⟩
  · go_quiet (fail)
    go_wp2_with fail
    go_ret
    exact ⟨rfl, _, by rw [World.drewN_drewN, World.drewN_drewN]⟩

set_option maxRecDepth 100000 in
set_option maxHeartbeats 3200000 in
theorem honest6 (s t : ByteArray) (w : World) (hs : s.size ≤ 200) (h6 : versionOf s = 6) (hc : (byteAt s 1 / 16 % 4 == 1 || byteAt s 1 / 16 % 4 == 2) = true) (ht : t = mark6 s) :
    Calls Try.prog 56 #[.string s, .string t] w fun e w' => e = .returned (.bool true) ∧ ∃ m, w' = w.drewN m := by
  obtain ⟨k1, k2, k7, k8, k9, k11⟩ := mark6_is s h6
  rw [← ht] at k7 k8 k9 k11
  clear ht h6
  have h0 : 0 < s.size := by omega
  have h1 : 1 < s.size := by omega
  have h1t : 1 < t.size := by omega
  obtain ⟨x, hx, ex, Hx⟩ : ∃ x : Nat, x < 256 ∧ s[1].toNat = x ∧ Bx (byteAt s 1 = x) := ⟨byteAt s 1, byteAt_lt _ _, by rw [byteAt_eq], ⟨rfl⟩⟩
  obtain ⟨x0, hx0, e0, H0⟩ : ∃ x : Nat, x < 256 ∧ s[0].toNat = x ∧ Bx (byteAt s 0 = x) := ⟨byteAt s 0, byteAt_lt _ _, by rw [byteAt_eq], ⟨rfl⟩⟩
  rw [Hx.out] at hc k8
  rw [H0.out] at k1
  obtain ⟨z, hz, ezz, Hz⟩ : ∃ z : Nat, z < 256 ∧ bits .or .u8 (x : Int) 48 = z ∧ Bx (x ||| 48 = z) := ⟨x ||| 48, (or_u8 x 48 hx (by decide)).2, (or_u8 x 48 hx (by decide)).1, ⟨rfl⟩⟩
  rw [Hz.out] at k8
  have et : t[1].toNat = z := by rw [byteAt_eq]; exact k8
  clear k8
  obtain ⟨x4, hx4, ex4, Hx4⟩ : ∃ q : Nat, q < 16 ∧ (x : Int) / 16 = q ∧ Bx (x / 16 = q) := ⟨x / 16, by omega, by omega, ⟨rfl⟩⟩
  rw [Hx4.out] at hc
  obtain ⟨y, hy, ey, Hy⟩ : ∃ y : Nat, y < 4 ∧ bits .and .u8 (x4 : Int) 3 = y ∧ Bx (x4 % 4 = y) := ⟨x4 % 4, by omega, and3 x4 (by omega), ⟨rfl⟩⟩
  rw [Hy.out] at hc
  have t6 : (x0 : Int) / 16 = 6 := by omega
  have s20 : ¬ (s.size : Int) < 20 := by omega
  have s20b : decide ((s.size : Int) < 20) = false := decide_eq_false s20
  have i2 : (2 : Int) ≤ s.size := by omega
  have i2t : (2 : Int) ≤ t.size := by omega
  have i1 : (1 : Int) < s.size := by omega
  have i1t : (1 : Int) < t.size := by omega
  have sl1 := slice_run_l Try.prog 9 Try.underlying9 s 2 2 rfl (by omega)
  have sl2 := slice_run_l Try.prog 9 Try.underlying9 t 2 2 rfl (by omega)
  rw [k7] at sl2
  rw [← k11] at sl2
  have k9' := k9.symm
  clear k9 k11
  have hyy : y = 1 ∨ y = 2 := by simpa using hc
  clear hc
  go_enter Try.func56, Try.ntmps56
  go_wp2_with fail
  rcases hyy with rfl | rfl
  · go_quiet (fail)
    go_wp2_with fail
    go_ret
    exact ⟨rfl, _, rfl⟩
  · go_quiet (fail)
    go_wp2_with fail
    go_ret
    exact ⟨rfl, _, rfl⟩

theorem honest_any (s t : ByteArray) (w : World) (hs : s.size ≤ 200) (hc : canB s = true) (ht : t = markOf s) :
    Calls Try.prog 56 #[.string s, .string t] w fun e w' => e = .returned (.bool true) ∧ ∃ m, w' = w.drewN m := by
  unfold canB at hc
  unfold markOf at ht
  by_cases h4 : versionOf s = 4
  · rw [if_pos h4] at hc ht
    exact honest4 s t w hs h4 hc ht
  · rw [if_neg h4] at hc ht
    by_cases h6 : versionOf s = 6
    · rw [if_pos h6] at hc
      exact honest6 s t w hs h6 hc ht
    · rw [if_neg h6] at hc
      cases hc

end Go.Proofs.Ytnkicbopebgppaa

/-! A frame of a flow. -/
namespace Go.Proofs.Ytnkicbopebgppaa
open Go.RowKit Fl

/-- Such a frame is read as IPv4, and can be marked. -/
theorem flow_can (t : ByteArray) (h20 : 20 ≤ t.size) (b0 : byteAt t 0 = 69) (b1 : byteAt t 1 = 2) (b2 : byteAt t 2 = 0) (b3 : byteAt t 3 = t.size) (hsum : fold16 (wsum t 10) = 65535) : canB t = true := by
  have hv : v4B t = true := by
    have hbe : be16 t 2 = t.size := by unfold be16; rw [b2, show 2 + 1 = 3 from rfl, b3]; omega
    simp only [v4B, decide_eq_true_eq]
    rw [b0, hbe]
    exact ⟨h20, by decide, by decide, by omega, by omega, hsum⟩
  have h4 : versionOf t = 4 := by unfold versionOf; rw [if_pos hv]
  unfold canB
  rw [if_pos h4, b1]
  rfl

/-- The bytes ahead of the checksum. -/
def rawOf (z : ByteArray) (k n m : Nat) : ByteArray := put (put (put (put (put (put (put (put (put (put z 0 69) 1 m) 2 0) 3 n) 8 9) 9 17) 12 10) 15 k) 16 10) 19 (k / 8)

theorem rawOf_size (z : ByteArray) (k n m : Nat) : (rawOf z k n m).size = z.size := by simp only [rawOf, put_size]

theorem rawOf_at (z : ByteArray) (k n m : Nat) (hz : z.size = n) (h0 : ∀ j, j < n → byteAt z j = 0) (h20 : 20 ≤ n) (hn : n ≤ 200) (hk : k < 64) (hm : m < 256) : byteAt (rawOf z k n m) 0 = 69 ∧ byteAt (rawOf z k n m) 1 = m ∧ byteAt (rawOf z k n m) 2 = 0 ∧ byteAt (rawOf z k n m) 3 = n ∧ byteAt (rawOf z k n m) 10 = 0 ∧ byteAt (rawOf z k n m) 11 = 0 := by
  have h : ∀ j, byteAt (rawOf z k n m) j = if j = 19 then k / 8 else if j = 16 then 10 else if j = 15 then k else if j = 12 then 10 else if j = 9 then 17 else if j = 8 then 9 else if j = 3 then n else if j = 2 then 0 else if j = 1 then m else if j = 0 then 69 else byteAt z j := by
    intro j
    unfold rawOf
    rw [byteAt_put _ _ _ _ (by omega) (by simp only [put_size]; omega), byteAt_put _ _ _ _ (by omega) (by simp only [put_size]; omega), byteAt_put _ _ _ _ (by omega) (by simp only [put_size]; omega), byteAt_put _ _ _ _ (by omega) (by simp only [put_size]; omega), byteAt_put _ _ _ _ (by omega) (by simp only [put_size]; omega), byteAt_put _ _ _ _ (by omega) (by simp only [put_size]; omega), byteAt_put _ _ _ _ (by omega) (by simp only [put_size]; omega), byteAt_put _ _ _ _ (by omega) (by simp only [put_size]; omega), byteAt_put _ _ _ _ hm (by simp only [put_size]; omega), byteAt_put _ _ _ _ (by omega) (by omega)]
  refine ⟨by rw [h]; rfl, by rw [h]; rfl, by rw [h]; rfl, by rw [h]; rfl, ?_, ?_⟩
  · rw [h]; exact h0 10 (by omega)
  · rw [h]; exact h0 11 (by omega)

set_option maxRecDepth 100000 in
set_option maxHeartbeats 3200000 in
theorem flow_yes (k n : Nat) (w : World) (hk : k < 64) (h20 : 20 ≤ n) (hn : n ≤ 200) :
    Calls Try.prog 23 #[.int .i64 k, .int .i64 n, .bool true] w fun e w' => ∃ t : ByteArray, e = .returned (.string t) ∧ canB t = true ∧ t.size = n ∧ Below w.heap.size w w' := by
  obtain ⟨z, hzs, hz0⟩ := bytesOf (fun _ => 0) n (fun _ _ => by omega)
  have hmk := make_bytes n (by omega)
  obtain ⟨m1, m2⟩ := made_bytes n w
  obtain ⟨m, hms, Hm⟩ : ∃ m : ByteArray, m.size = n ∧ Bx (rawOf z k n 2 = m) := ⟨_, by rw [rawOf_size, hzs], ⟨rfl⟩⟩
  have HRA : Bx _ := ⟨rawOf_at z k n 2 hzs hz0 h20 hn hk (by omega)⟩
  rw [Hm.out] at HRA
  obtain ⟨F, HF⟩ : ∃ F, Bx (fold16 (wsum (m.extract 0 20) ((m.extract 0 20).size / 2)) = F) := ⟨_, ⟨rfl⟩⟩
  have hF : F ≤ 65535 := by rw [← HF.out]; exact fold16_le _
  have HF2 : Bx (fold16 (wsum m 10) = F) := ⟨by
    rw [← HF.out, ByteArray.size_extract, show min 20 m.size - 0 = 20 by omega, wsum_extract m 20 (by omega) _ (by omega)]⟩
  obtain ⟨r, hr, er, Hr⟩ : ∃ r : Nat, r ≤ 65535 ∧ (65535 : Int) - F = r ∧ Bx (r = 65535 - F) := ⟨65535 - F, by omega, by omega, ⟨rfl⟩⟩
  obtain ⟨r1, hr1, er1, Hr1⟩ : ∃ q : Nat, q < 256 ∧ IntKind.u8.wrap (r : Int) = q ∧ Bx (r % 256 = q) := ⟨r % 256, by omega, by rw [IntKind.wrap_u8']; omega, ⟨rfl⟩⟩
  obtain ⟨r2, hr2, er2, Hr2⟩ : ∃ q : Nat, q < 256 ∧ (r : Int) / 256 = q ∧ Bx (r / 256 = q) := ⟨r / 256, by omega, by omega, ⟨rfl⟩⟩
  obtain ⟨k8, hk8, ek8, Hk8⟩ : ∃ q : Nat, q < 256 ∧ (k : Int) / 8 = q ∧ Bx (k / 8 = q) := ⟨k / 8, by omega, by omega, ⟨rfl⟩⟩
  have en8 : (n : Int) / 256 = 0 := by omega
  obtain ⟨t, hts, HT⟩ : ∃ t : ByteArray, t.size = n ∧ Bx (put (put m 10 r2) 11 r1 = t) := ⟨_, by rw [put_size, put_size, hms], ⟨rfl⟩⟩
  have HCAN : Bx (canB t = true) := ⟨by
    obtain ⟨q0, q1, q2, q3, q10, q11⟩ := HRA.out
    have hB : ∀ j, j ≠ 10 → j ≠ 11 → byteAt t j = byteAt m j := by
      intro j h1 h2
      rw [← HT.out, byteAt_put _ _ _ _ hr1 (by rw [put_size]; omega), if_neg h2, byteAt_put _ _ _ _ hr2 (by omega), if_neg h1]
    refine flow_can t (by omega) (by rw [hB 0 (by omega) (by omega), q0]) (by rw [hB 1 (by omega) (by omega), q1]) (by rw [hB 2 (by omega) (by omega), q2]) (by rw [hB 3 (by omega) (by omega), q3, hts]) ?_
    have := sum_full m 10 (by omega) (by omega) q10 q11 r (by rw [HF2.out]; exact Hr.out)
    rw [Hr1.out, Hr2.out, HT.out] at this
    exact this⟩
  clear HRA HF2
  have i1 : (1 : Int) < n := by omega
  have i20 : (20 : Int) ≤ n := by omega
  have i2x : (2 : Int) < n := by omega
  have i3x : (3 : Int) < n := by omega
  have i8x : (8 : Int) < n := by omega
  have i9x : (9 : Int) < n := by omega
  have i10x : (10 : Int) < n := by omega
  have i11x : (11 : Int) < n := by omega
  have i12x : (12 : Int) < n := by omega
  have i15x : (15 : Int) < n := by omega
  have i16x : (16 : Int) < n := by omega
  have i19x : (19 : Int) < n := by omega
  obtain ⟨g, Hg⟩ : ∃ g, Bx (w.heap.size = g) := ⟨_, ⟨rfl⟩⟩
  have HM1 : Bx _ := ⟨m1⟩
  have HM2 : Bx _ := ⟨m2⟩
  clear m1 m2
  have HB1 : Bx (Below w.heap.size w (w.alloc (Obj.cells (madeCells #[.int .u8 0] n) 5))) := ⟨(Below.refl _ _).alloc (Nat.le_refl _) _⟩
  have HLT : Bx (w.heap.size < (w.alloc (Obj.cells (madeCells #[.int .u8 0] n) 5)).heap.size) := ⟨by simp⟩
  go_enter Try.func23, Try.ntmps23
  go_upto_region 2 with fail
  rw [Hg.out] at HM1 HM2 HB1 HLT ⊢
  generalize w.alloc (Obj.cells (madeCells #[.int .u8 0] n) 5) = w1 at *
  have hat : BytesAt w1 g z := ⟨fun i hi => by rw [hz0 i (by omega)]; exact HM1.out i (by omega)⟩
  have d0 : w1.cell? ⟨g, 0, none⟩ = some (.int .u8 0) := HM1.out 0 (by omega)
  have d1 : w1.cell? ⟨g, 1, none⟩ = some (.int .u8 0) := HM1.out 1 (by omega)
  have d2 : w1.cell? ⟨g, 2, none⟩ = some (.int .u8 0) := HM1.out 2 (by omega)
  have d3 : w1.cell? ⟨g, 3, none⟩ = some (.int .u8 0) := HM1.out 3 (by omega)
  have d8 : w1.cell? ⟨g, 8, none⟩ = some (.int .u8 0) := HM1.out 8 (by omega)
  have d9 : w1.cell? ⟨g, 9, none⟩ = some (.int .u8 0) := HM1.out 9 (by omega)
  have d12 : w1.cell? ⟨g, 12, none⟩ = some (.int .u8 0) := HM1.out 12 (by omega)
  have d15 : w1.cell? ⟨g, 15, none⟩ = some (.int .u8 0) := HM1.out 15 (by omega)
  have d16 : w1.cell? ⟨g, 16, none⟩ = some (.int .u8 0) := HM1.out 16 (by omega)
  have d19 : w1.cell? ⟨g, 19, none⟩ = some (.int .u8 0) := HM1.out 19 (by omega)
  have d10 : w1.cell? ⟨g, 10, none⟩ = some (.int .u8 0) := HM1.out 10 (by omega)
  have d11 : w1.cell? ⟨g, 11, none⟩ = some (.int .u8 0) := HM1.out 11 (by omega)
  have fz := HM2.out
  have hat2 : BytesAt ((((((((((w1.setCell ⟨g, 0, none⟩ (.int .u8 69)).setCell ⟨g, 1, none⟩ (.int .u8 2)).setCell ⟨g, 2, none⟩ (.int .u8 0)).setCell ⟨g, 3, none⟩ (.int .u8 n)).setCell ⟨g, 8, none⟩ (.int .u8 9)).setCell ⟨g, 9, none⟩ (.int .u8 17)).setCell ⟨g, 12, none⟩ (.int .u8 10)).setCell ⟨g, 15, none⟩ (.int .u8 k)).setCell ⟨g, 16, none⟩ (.int .u8 10)).setCell ⟨g, 19, none⟩ (.int .u8 k8)) g m := by
    rw [← Hm.out]
    unfold rawOf
    rw [Hk8.out]
    exact ((((((((((hat.put 0 69 (by omega) (by omega)).put 1 2 (by simp only [put_size]; omega) (by omega)).put 2 0 (by simp only [put_size]; omega) (by omega)).put 3 n (by simp only [put_size]; omega) (by omega)).put 8 9 (by simp only [put_size]; omega) (by omega)).put 9 17 (by simp only [put_size]; omega) (by omega)).put 12 10 (by simp only [put_size]; omega) (by omega)).put 15 k (by simp only [put_size]; omega) (by omega)).put 16 10 (by simp only [put_size]; omega) (by omega)).put 19 k8 (by simp only [put_size]; omega) (by omega))
  have HAT2 : Bx _ := ⟨hat2⟩
  have HBL : Bx (Below g w ((((((((((w1.setCell ⟨g, 0, none⟩ (.int .u8 69)).setCell ⟨g, 1, none⟩ (.int .u8 2)).setCell ⟨g, 2, none⟩ (.int .u8 0)).setCell ⟨g, 3, none⟩ (.int .u8 n)).setCell ⟨g, 8, none⟩ (.int .u8 9)).setCell ⟨g, 9, none⟩ (.int .u8 17)).setCell ⟨g, 12, none⟩ (.int .u8 10)).setCell ⟨g, 15, none⟩ (.int .u8 k)).setCell ⟨g, 16, none⟩ (.int .u8 10)).setCell ⟨g, 19, none⟩ (.int .u8 k8))) := ⟨((((((((((HB1.out.setCell (Nat.le_refl _) _).setCell (Nat.le_refl _) _).setCell (Nat.le_refl _) _).setCell (Nat.le_refl _) _).setCell (Nat.le_refl _) _).setCell (Nat.le_refl _) _).setCell (Nat.le_refl _) _).setCell (Nat.le_refl _) _).setCell (Nat.le_refl _) _).setCell (Nat.le_refl _) _)⟩
  have hsz : g < ((((((((((w1.setCell ⟨g, 0, none⟩ (.int .u8 69)).setCell ⟨g, 1, none⟩ (.int .u8 2)).setCell ⟨g, 2, none⟩ (.int .u8 0)).setCell ⟨g, 3, none⟩ (.int .u8 n)).setCell ⟨g, 8, none⟩ (.int .u8 9)).setCell ⟨g, 9, none⟩ (.int .u8 17)).setCell ⟨g, 12, none⟩ (.int .u8 10)).setCell ⟨g, 15, none⟩ (.int .u8 k)).setCell ⟨g, 16, none⟩ (.int .u8 10)).setCell ⟨g, 19, none⟩ (.int .u8 k8)).heap.size := by simp [World.setCell]; exact HLT.out
  clear hat hat2
  go_upto_region 13 with fail
  have e10 : ((((((((((w1.setCell ⟨g, 0, none⟩ (.int .u8 69)).setCell ⟨g, 1, none⟩ (.int .u8 2)).setCell ⟨g, 2, none⟩ (.int .u8 0)).setCell ⟨g, 3, none⟩ (.int .u8 n)).setCell ⟨g, 8, none⟩ (.int .u8 9)).setCell ⟨g, 9, none⟩ (.int .u8 17)).setCell ⟨g, 12, none⟩ (.int .u8 10)).setCell ⟨g, 15, none⟩ (.int .u8 k)).setCell ⟨g, 16, none⟩ (.int .u8 10)).setCell ⟨g, 19, none⟩ (.int .u8 k8)).cell? ⟨g, 10, none⟩ = some (.int .u8 0) := by go_simp
  have e11 : ((((((((((w1.setCell ⟨g, 0, none⟩ (.int .u8 69)).setCell ⟨g, 1, none⟩ (.int .u8 2)).setCell ⟨g, 2, none⟩ (.int .u8 0)).setCell ⟨g, 3, none⟩ (.int .u8 n)).setCell ⟨g, 8, none⟩ (.int .u8 9)).setCell ⟨g, 9, none⟩ (.int .u8 17)).setCell ⟨g, 12, none⟩ (.int .u8 10)).setCell ⟨g, 15, none⟩ (.int .u8 k)).setCell ⟨g, 16, none⟩ (.int .u8 10)).setCell ⟨g, 19, none⟩ (.int .u8 k8)).cell? ⟨g, 11, none⟩ = some (.int .u8 0) := by go_simp
  have fz2 : ∀ j, ((((((((((w1.setCell ⟨g, 0, none⟩ (.int .u8 69)).setCell ⟨g, 1, none⟩ (.int .u8 2)).setCell ⟨g, 2, none⟩ (.int .u8 0)).setCell ⟨g, 3, none⟩ (.int .u8 n)).setCell ⟨g, 8, none⟩ (.int .u8 9)).setCell ⟨g, 9, none⟩ (.int .u8 17)).setCell ⟨g, 12, none⟩ (.int .u8 10)).setCell ⟨g, 15, none⟩ (.int .u8 k)).setCell ⟨g, 16, none⟩ (.int .u8 10)).setCell ⟨g, 19, none⟩ (.int .u8 k8)).frozen? ⟨g, j, none⟩ = false := fun j => by simp only [World.frozen?_setCell]; exact fz j
  clear d0 d1 d2 d3 d8 d9 d12 d15 d16 d19 d10 d11 fz HM1 HM2 HB1 HLT
  generalize ((((((((((w1.setCell ⟨g, 0, none⟩ (.int .u8 69)).setCell ⟨g, 1, none⟩ (.int .u8 2)).setCell ⟨g, 2, none⟩ (.int .u8 0)).setCell ⟨g, 3, none⟩ (.int .u8 n)).setCell ⟨g, 8, none⟩ (.int .u8 9)).setCell ⟨g, 9, none⟩ (.int .u8 17)).setCell ⟨g, 12, none⟩ (.int .u8 10)).setCell ⟨g, 15, none⟩ (.int .u8 k)).setCell ⟨g, 16, none⟩ (.int .u8 10)).setCell ⟨g, 19, none⟩ (.int .u8 k8)) = w2 at *
  have hat := HAT2.out
  go_wp2_with (refine wpList_back _ rfl 54 9 _ rfl 5 (m.extract 0 20) g 0 20 _ Try.underlying54 Try.underlying9 Try.underlying5 rfl ?q1 ?q2 ?_)
  case q1 => rw [ByteArray.size_extract]; omega
  case q2 =>
    intro i hi
    rw [Nat.zero_add, byteAt_extract m 0 20 i (by omega) (by omega), Nat.zero_add]
    exact hat.cell i (by omega)
  refine (ksum_any _ _ _ (by rw [ByteArray.size_extract]; omega) HF).mono ?_
  rintro e w3 ⟨rfl, q, rfl⟩
  clear HF
  go_wp2_with (refine wpList_back _ rfl 54 9 _ rfl 5 t g 0 n n Try.underlying54 Try.underlying9 Try.underlying5 rfl ?q1 ?q2 ?_)
  case q1 => exact hts
  case q2 =>
    intro i hi
    rw [Nat.zero_add, ← HT.out]
    have hat4 : BytesAt (w2.drewN q) g m := ⟨hat.cell⟩
    exact ((hat4.put 10 r2 (by omega) hr2).put 11 r1 (by rw [put_size]; omega) hr1).cell i (by rw [put_size, put_size]; omega)
  go_ret
  rw [Hg.out]
  exact ⟨t, rfl, HCAN.out, hts, ((HBL.out.drewN q).setCell (Nat.le_refl _) _).setCell (Nat.le_refl _) _⟩

set_option maxRecDepth 100000 in
set_option maxHeartbeats 3200000 in
theorem flow_no (k n : Nat) (w : World) (hk : k < 64) (h20 : 20 ≤ n) (hn : n ≤ 200) :
    Calls Try.prog 23 #[.int .i64 k, .int .i64 n, .bool false] w fun e w' => ∃ t : ByteArray, e = .returned (.string t) ∧ t.size = n ∧ Below w.heap.size w w' := by
  obtain ⟨z, hzs, hz0⟩ := bytesOf (fun _ => 0) n (fun _ _ => by omega)
  have hmk := make_bytes n (by omega)
  obtain ⟨m1, m2⟩ := made_bytes n w
  obtain ⟨m, hms, Hm⟩ : ∃ m : ByteArray, m.size = n ∧ Bx (rawOf z k n 0 = m) := ⟨_, by rw [rawOf_size, hzs], ⟨rfl⟩⟩
  have HRA : Bx _ := ⟨rawOf_at z k n 0 hzs hz0 h20 hn hk (by omega)⟩
  rw [Hm.out] at HRA
  obtain ⟨F, HF⟩ : ∃ F, Bx (fold16 (wsum (m.extract 0 20) ((m.extract 0 20).size / 2)) = F) := ⟨_, ⟨rfl⟩⟩
  have hF : F ≤ 65535 := by rw [← HF.out]; exact fold16_le _
  have HF2 : Bx (fold16 (wsum m 10) = F) := ⟨by
    rw [← HF.out, ByteArray.size_extract, show min 20 m.size - 0 = 20 by omega, wsum_extract m 20 (by omega) _ (by omega)]⟩
  obtain ⟨r, hr, er, Hr⟩ : ∃ r : Nat, r ≤ 65535 ∧ (65535 : Int) - F = r ∧ Bx (r = 65535 - F) := ⟨65535 - F, by omega, by omega, ⟨rfl⟩⟩
  obtain ⟨r1, hr1, er1, Hr1⟩ : ∃ q : Nat, q < 256 ∧ IntKind.u8.wrap (r : Int) = q ∧ Bx (r % 256 = q) := ⟨r % 256, by omega, by rw [IntKind.wrap_u8']; omega, ⟨rfl⟩⟩
  obtain ⟨r2, hr2, er2, Hr2⟩ : ∃ q : Nat, q < 256 ∧ (r : Int) / 256 = q ∧ Bx (r / 256 = q) := ⟨r / 256, by omega, by omega, ⟨rfl⟩⟩
  obtain ⟨k8, hk8, ek8, Hk8⟩ : ∃ q : Nat, q < 256 ∧ (k : Int) / 8 = q ∧ Bx (k / 8 = q) := ⟨k / 8, by omega, by omega, ⟨rfl⟩⟩
  have en8 : (n : Int) / 256 = 0 := by omega
  obtain ⟨t, hts, HT⟩ : ∃ t : ByteArray, t.size = n ∧ Bx (put (put m 10 r2) 11 r1 = t) := ⟨_, by rw [put_size, put_size, hms], ⟨rfl⟩⟩
  clear HRA HF2
  have i1 : (1 : Int) < n := by omega
  have i20 : (20 : Int) ≤ n := by omega
  have i2x : (2 : Int) < n := by omega
  have i3x : (3 : Int) < n := by omega
  have i8x : (8 : Int) < n := by omega
  have i9x : (9 : Int) < n := by omega
  have i10x : (10 : Int) < n := by omega
  have i11x : (11 : Int) < n := by omega
  have i12x : (12 : Int) < n := by omega
  have i15x : (15 : Int) < n := by omega
  have i16x : (16 : Int) < n := by omega
  have i19x : (19 : Int) < n := by omega
  obtain ⟨g, Hg⟩ : ∃ g, Bx (w.heap.size = g) := ⟨_, ⟨rfl⟩⟩
  have HM1 : Bx _ := ⟨m1⟩
  have HM2 : Bx _ := ⟨m2⟩
  clear m1 m2
  have HB1 : Bx (Below w.heap.size w (w.alloc (Obj.cells (madeCells #[.int .u8 0] n) 5))) := ⟨(Below.refl _ _).alloc (Nat.le_refl _) _⟩
  have HLT : Bx (w.heap.size < (w.alloc (Obj.cells (madeCells #[.int .u8 0] n) 5)).heap.size) := ⟨by simp⟩
  go_enter Try.func23, Try.ntmps23
  go_upto_region 2 with fail
  rw [Hg.out] at HM1 HM2 HB1 HLT ⊢
  generalize w.alloc (Obj.cells (madeCells #[.int .u8 0] n) 5) = w1 at *
  have hat : BytesAt w1 g z := ⟨fun i hi => by rw [hz0 i (by omega)]; exact HM1.out i (by omega)⟩
  have d0 : w1.cell? ⟨g, 0, none⟩ = some (.int .u8 0) := HM1.out 0 (by omega)
  have d2 : w1.cell? ⟨g, 2, none⟩ = some (.int .u8 0) := HM1.out 2 (by omega)
  have d3 : w1.cell? ⟨g, 3, none⟩ = some (.int .u8 0) := HM1.out 3 (by omega)
  have d8 : w1.cell? ⟨g, 8, none⟩ = some (.int .u8 0) := HM1.out 8 (by omega)
  have d9 : w1.cell? ⟨g, 9, none⟩ = some (.int .u8 0) := HM1.out 9 (by omega)
  have d12 : w1.cell? ⟨g, 12, none⟩ = some (.int .u8 0) := HM1.out 12 (by omega)
  have d15 : w1.cell? ⟨g, 15, none⟩ = some (.int .u8 0) := HM1.out 15 (by omega)
  have d16 : w1.cell? ⟨g, 16, none⟩ = some (.int .u8 0) := HM1.out 16 (by omega)
  have d19 : w1.cell? ⟨g, 19, none⟩ = some (.int .u8 0) := HM1.out 19 (by omega)
  have d10 : w1.cell? ⟨g, 10, none⟩ = some (.int .u8 0) := HM1.out 10 (by omega)
  have d11 : w1.cell? ⟨g, 11, none⟩ = some (.int .u8 0) := HM1.out 11 (by omega)
  have fz := HM2.out
  have hat2 : BytesAt (((((((((w1.setCell ⟨g, 0, none⟩ (.int .u8 69)).setCell ⟨g, 2, none⟩ (.int .u8 0)).setCell ⟨g, 3, none⟩ (.int .u8 n)).setCell ⟨g, 8, none⟩ (.int .u8 9)).setCell ⟨g, 9, none⟩ (.int .u8 17)).setCell ⟨g, 12, none⟩ (.int .u8 10)).setCell ⟨g, 15, none⟩ (.int .u8 k)).setCell ⟨g, 16, none⟩ (.int .u8 10)).setCell ⟨g, 19, none⟩ (.int .u8 k8)) g m := by
    have h1 := (((((((((hat.put 0 69 (by omega) (by omega)).put 2 0 (by simp only [put_size]; omega) (by omega)).put 3 n (by simp only [put_size]; omega) (by omega)).put 8 9 (by simp only [put_size]; omega) (by omega)).put 9 17 (by simp only [put_size]; omega) (by omega)).put 12 10 (by simp only [put_size]; omega) (by omega)).put 15 k (by simp only [put_size]; omega) (by omega)).put 16 10 (by simp only [put_size]; omega) (by omega)).put 19 k8 (by simp only [put_size]; omega) (by omega))
    have e : put (put (put (put (put (put (put (put (put z 0 69) 2 0) 3 n) 8 9) 9 17) 12 10) 15 k) 16 10) 19 k8 = m := by
      rw [← Hm.out]
      unfold rawOf
      rw [Hk8.out]
      have e0 : put (put z 0 69) 1 0 = put z 0 69 := by
        refine bytes_ext _ _ (by rw [put_size]) (fun i hi => ?_)
        rw [put_size, put_size] at hi
        rw [byteAt_put _ _ _ _ (by omega) (by rw [put_size]; omega)]
        by_cases e : i = 1
        · rw [if_pos e, byteAt_put _ _ _ _ (by omega) (by omega), if_neg (by omega), hz0 i (by omega)]
        · rw [if_neg e]
      rw [e0]
    rw [e] at h1
    exact h1
  have HAT2 : Bx _ := ⟨hat2⟩
  have HBL : Bx (Below g w (((((((((w1.setCell ⟨g, 0, none⟩ (.int .u8 69)).setCell ⟨g, 2, none⟩ (.int .u8 0)).setCell ⟨g, 3, none⟩ (.int .u8 n)).setCell ⟨g, 8, none⟩ (.int .u8 9)).setCell ⟨g, 9, none⟩ (.int .u8 17)).setCell ⟨g, 12, none⟩ (.int .u8 10)).setCell ⟨g, 15, none⟩ (.int .u8 k)).setCell ⟨g, 16, none⟩ (.int .u8 10)).setCell ⟨g, 19, none⟩ (.int .u8 k8))) := ⟨(((((((((HB1.out.setCell (Nat.le_refl _) _).setCell (Nat.le_refl _) _).setCell (Nat.le_refl _) _).setCell (Nat.le_refl _) _).setCell (Nat.le_refl _) _).setCell (Nat.le_refl _) _).setCell (Nat.le_refl _) _).setCell (Nat.le_refl _) _).setCell (Nat.le_refl _) _)⟩
  have hsz : g < (((((((((w1.setCell ⟨g, 0, none⟩ (.int .u8 69)).setCell ⟨g, 2, none⟩ (.int .u8 0)).setCell ⟨g, 3, none⟩ (.int .u8 n)).setCell ⟨g, 8, none⟩ (.int .u8 9)).setCell ⟨g, 9, none⟩ (.int .u8 17)).setCell ⟨g, 12, none⟩ (.int .u8 10)).setCell ⟨g, 15, none⟩ (.int .u8 k)).setCell ⟨g, 16, none⟩ (.int .u8 10)).setCell ⟨g, 19, none⟩ (.int .u8 k8)).heap.size := by simp [World.setCell]; exact HLT.out
  clear hat hat2
  go_upto_region 13 with fail
  have e10 : (((((((((w1.setCell ⟨g, 0, none⟩ (.int .u8 69)).setCell ⟨g, 2, none⟩ (.int .u8 0)).setCell ⟨g, 3, none⟩ (.int .u8 n)).setCell ⟨g, 8, none⟩ (.int .u8 9)).setCell ⟨g, 9, none⟩ (.int .u8 17)).setCell ⟨g, 12, none⟩ (.int .u8 10)).setCell ⟨g, 15, none⟩ (.int .u8 k)).setCell ⟨g, 16, none⟩ (.int .u8 10)).setCell ⟨g, 19, none⟩ (.int .u8 k8)).cell? ⟨g, 10, none⟩ = some (.int .u8 0) := by go_simp
  have e11 : (((((((((w1.setCell ⟨g, 0, none⟩ (.int .u8 69)).setCell ⟨g, 2, none⟩ (.int .u8 0)).setCell ⟨g, 3, none⟩ (.int .u8 n)).setCell ⟨g, 8, none⟩ (.int .u8 9)).setCell ⟨g, 9, none⟩ (.int .u8 17)).setCell ⟨g, 12, none⟩ (.int .u8 10)).setCell ⟨g, 15, none⟩ (.int .u8 k)).setCell ⟨g, 16, none⟩ (.int .u8 10)).setCell ⟨g, 19, none⟩ (.int .u8 k8)).cell? ⟨g, 11, none⟩ = some (.int .u8 0) := by go_simp
  have fz2 : ∀ j, (((((((((w1.setCell ⟨g, 0, none⟩ (.int .u8 69)).setCell ⟨g, 2, none⟩ (.int .u8 0)).setCell ⟨g, 3, none⟩ (.int .u8 n)).setCell ⟨g, 8, none⟩ (.int .u8 9)).setCell ⟨g, 9, none⟩ (.int .u8 17)).setCell ⟨g, 12, none⟩ (.int .u8 10)).setCell ⟨g, 15, none⟩ (.int .u8 k)).setCell ⟨g, 16, none⟩ (.int .u8 10)).setCell ⟨g, 19, none⟩ (.int .u8 k8)).frozen? ⟨g, j, none⟩ = false := fun j => by simp only [World.frozen?_setCell]; exact fz j
  clear d0 d2 d3 d8 d9 d12 d15 d16 d19 d10 d11 fz HM1 HM2 HB1 HLT
  generalize (((((((((w1.setCell ⟨g, 0, none⟩ (.int .u8 69)).setCell ⟨g, 2, none⟩ (.int .u8 0)).setCell ⟨g, 3, none⟩ (.int .u8 n)).setCell ⟨g, 8, none⟩ (.int .u8 9)).setCell ⟨g, 9, none⟩ (.int .u8 17)).setCell ⟨g, 12, none⟩ (.int .u8 10)).setCell ⟨g, 15, none⟩ (.int .u8 k)).setCell ⟨g, 16, none⟩ (.int .u8 10)).setCell ⟨g, 19, none⟩ (.int .u8 k8)) = w2 at *
  have hat := HAT2.out
  go_wp2_with (refine wpList_back _ rfl 54 9 _ rfl 5 (m.extract 0 20) g 0 20 _ Try.underlying54 Try.underlying9 Try.underlying5 rfl ?q1 ?q2 ?_)
  case q1 => rw [ByteArray.size_extract]; omega
  case q2 =>
    intro i hi
    rw [Nat.zero_add, byteAt_extract m 0 20 i (by omega) (by omega), Nat.zero_add]
    exact hat.cell i (by omega)
  refine (ksum_any _ _ _ (by rw [ByteArray.size_extract]; omega) HF).mono ?_
  rintro e w3 ⟨rfl, q, rfl⟩
  clear HF
  go_wp2_with (refine wpList_back _ rfl 54 9 _ rfl 5 t g 0 n n Try.underlying54 Try.underlying9 Try.underlying5 rfl ?q1 ?q2 ?_)
  case q1 => exact hts
  case q2 =>
    intro i hi
    rw [Nat.zero_add, ← HT.out]
    have hat4 : BytesAt (w2.drewN q) g m := ⟨hat.cell⟩
    exact ((hat4.put 10 r2 (by omega) hr2).put 11 r1 (by rw [put_size]; omega) hr1).cell i (by rw [put_size, put_size]; omega)
  go_ret
  rw [Hg.out]
  exact ⟨t, rfl, hts, ((HBL.out.drewN q).setCell (Nat.le_refl _) _).setCell (Nat.le_refl _) _⟩

end Go.Proofs.Ytnkicbopebgppaa

/-! What is known of a change. -/
namespace Go.Proofs.Ytnkicbopebgppaa
open Go.RowKit Fl

theorem evB_of {N d : Nat} {b1 : Bo} {l : List Ev} (hE : EvsOk 0 N b1 l) (hB : BdB (200 * d) b1) (hd : d + l.length ≤ 16777216) (hN : N ≤ 4611686018427387904) (hs : ∀ i, i < b1.on.buckets → b1.size i ≤ 20000) (hf : b1.f.length ≤ 16777216) (hon : b1.on.ok) :
    ∀ i (h : i < l.length), EvB (b1.events (l.take i)) l[i] := by
  intro i hi
  have ht := hE.take i
  have hb := hB.events ht
  have hk := hE.at i hi
  have hti : (l.take i).length ≤ l.length := by rw [List.length_take]; omega
  have hbd := hb.ar l[i].b
  have hsz := events_less ht l[i].b
  have hs0 := hs l[i].b (by have := hk.bu; rw [events_on] at this; exact this)
  have hti2 : 200 * (l.take i).length ≤ 200 * l.length := Nat.mul_le_mul_left _ hti
  refine ⟨Nat.le_trans hk.hi hN, by rw [events_on]; exact hon.u2, by omega, by omega, by omega, by omega, by rw [events_len]; omega, by rw [events_on]; have h1 := hon.t2; have h2 := hon.i2; omega⟩

/-- The port keeps its buckets. -/
structure ChS (p : Pt) (b : Bo) (c : Cf) (p' : Pt) (l : List Ev) : Prop where
  ok : p'.ok
  on : c = p'.c
  ids : p'.ids = p.ids
  bu : c.buckets = b.on.buckets
  ll : l.length ≤ 16777216
  fl : b.f.length ≤ 16777216
  kd : ∀ i (h : i < l.length), l[i].kind = 3
  hE : ∀ hd, EvsOk hd p'.now ({ b.changes with on := c } : Bo).clears l
  hB : ∀ i (h : i < l.length), EvB ((({ b.changes with on := c } : Bo).clears).events (l.take i)) l[i]
  hS : ∀ hd, StOk hd p' ((({ b.changes with on := c } : Bo).clears).events l)
  hT : StB ((({ b.changes with on := c } : Bo).clears).events l)
  jb : ∀ hd, JB hd p' (((({ b.changes with on := c } : Bo).clears).events l).stands p'.busy)
  bd : BdB (200 * p'.done.length) (((({ b.changes with on := c } : Bo).clears).events l).stands p'.busy)

theorem chS_of {p : Pt} {b : Bo} (hJ : ∀ hd, JB hd p b) (hbd : BdB (200 * p.done.length) b) (hids : p.ids ≤ 16777216) (c : Cf) (hc : c.ok) (hk : p.c.keeps c) (p' : Pt) (hp : p.configure c = p') (l : List Ev) (hl : p'.done = p.done ++ l) : ChS p b c p' l := by
  have hok := (hJ 0).ok
  obtain ⟨o1, _, o3, o4, o5, _⟩ := p.configure_ok hok c hc
  rw [hp] at o1 o3 o4 o5
  have jq := (hJ 0).j.jq
  have hon : b.on = p.c := jq.on
  have hlen : b.f.length = p.ids := jq.len
  have key : ∀ hd, Went hd p.now p (({ b.changes with on := c } : Bo).clears) p' l ∧ ∀ e ∈ l, e.kind = 3 := by
    intro hd
    obtain ⟨l', W, K⟩ := (hJ hd).adopt c hc hk
    rw [hp] at W
    have e : l' = l := by
      have h := W.done
      rw [hl] at h
      exact (List.append_cancel_left h).symm
    subst e
    exact ⟨W, K⟩
  obtain ⟨s2, he⟩ := JB.sizes hJ
  have h1 := hbd.changes
  have hB1 : BdB (200 * p.done.length) ({ b.changes with on := c } : Bo).clears := BdB.clears (b := ({ b.changes with on := c } : Bo)) ⟨h1.ar, h1.pr⟩
  obtain ⟨b1, b2, b3⟩ := Went.bounds (N := p.now) (fun hd => (key hd).1) hB1 o1 (by omega) hok.now (by intro i hi; exact Nat.le_trans (s2 i (by have hi' : i < c.buckets := hi; rw [hk.1] at hi'; exact hi')) (by omega))
    (by show b.here.length ≤ 1000; omega) (by show (b.f.map Fq.freed).length ≤ 16777216; rw [List.length_map]; omega) hc
  have hdn := o1.dn
  have hdl : p'.done.length = p.done.length + l.length := by rw [hl, List.length_append]
  exact ⟨o1, o3.symm, o4, by rw [hon]; exact hk.1, by omega, by omega, fun i h => (key 0).2 _ (List.getElem_mem h), by rw [o5]; exact fun hd => (key hd).1.ok, b1, fun hd => (key hd).1.st, b2, fun hd => (key hd).1.jb, b3⟩

/-- Buckets anew. -/
structure ChN (p : Pt) (b : Bo) (c : Cf) (p' : Pt) (l : List Ev) : Prop where
  ok : p'.ok
  on : c = p'.c
  ids : p'.ids = p.ids
  bu : b.on.buckets ≤ 16
  ll : l.length ≤ 16777216
  fl : b.f.length ≤ 16777216
  kd : ∀ i (h : i < l.length), l[i].kind = 5
  hE : ∀ hd, EvsOk hd p'.now b.changes l
  hB : ∀ i (h : i < l.length), EvB (b.changes.events (l.take i)) l[i]
  hS : ∀ hd, StOk hd p' ((b.changes.events l).news c)
  hT : StB ((b.changes.events l).news c)
  jb : ∀ hd, JB hd p' (((b.changes.events l).news c).stands p'.busy)
  bd : BdB (200 * p'.done.length) (((b.changes.events l).news c).stands p'.busy)

theorem chN_of {p : Pt} {b : Bo} (hJ : ∀ hd, JB hd p b) (hbd : BdB (200 * p.done.length) b) (hids : p.ids ≤ 16777216) (c : Cf) (hc : c.ok) (p' : Pt) (hp : p' = p.flush.renew c ∨ p' = { p.flush.renew c with done := [] }) (l : List Ev) (hl : l = flushEv p.now p.bk p.c.buckets) : ChN p b c p' l := by
  have hok := (hJ 0).ok
  subst hl
  obtain ⟨o1, _⟩ := p.renew_ok hok c hc
  have jq := (hJ 0).j.jq
  have hon : b.on = p.c := jq.on
  have hlen : b.f.length = p.ids := jq.len
  have R := fun hd => (hJ hd).renew c hc p' hp
  obtain ⟨s2, he⟩ := JB.sizes hJ
  have hdn := o1.dn
  have hdl : (p.flush.renew c).done.length = p.done.length + (flushEv p.now p.bk p.c.buckets).length := by
    show (p.done ++ flushEv p.now p.bk p.c.buckets).length = _
    rw [List.length_append]
  have hid2 : (p.flush.renew c).ids = p.ids := rfl
  have hpc : p'.c = c := by rcases hp with rfl | rfl <;> rfl
  have hpn : p'.now = p.now := by rcases hp with rfl | rfl <;> rfl
  have hpi : p'.ids = p.ids := by rcases hp with rfl | rfl <;> rfl
  have hjb := fun hd => (R hd).2.2
  refine ⟨(hjb 0).ok, hpc.symm, hpi, by rw [hon]; exact hok.c.b2, by omega, by omega, fun i h => flushEv_kind _ _ _ _ (List.getElem_mem h), by rw [hpn]; exact fun hd => (R hd).1, ?_, fun hd => (R hd).2.1, ⟨?_, ?_, fun i _ => ?_, fun m hm => (by cases hm)⟩, hjb, (BdB.news _ _ _).stands _⟩
  · refine evB_of (N := p.now) (d := p.done.length) (R 0).1 hbd.changes (by omega) hok.now (fun i hi => Nat.le_trans (s2 i (by have hi' : i < b.on.buckets := hi; rw [hon] at hi'; exact hi')) (by omega)) ?_ ?_
    · show (b.f.map Fq.freed).length ≤ 16777216
      rw [List.length_map]; omega
    · show b.on.ok
      rw [hon]; exact hok.c
  · show (b.changes.events _).here.length ≤ 1000
    rw [events_here]
    show b.here.length ≤ 1000
    omega
  · show (b.changes.events _).f.length ≤ 1099511627776
    rw [events_len]
    show (b.f.map Fq.freed).length ≤ 1099511627776
    rw [List.length_map]; omega
  · exact ⟨Nat.zero_le _, Nat.zero_le _, Nat.zero_le _⟩

end Go.Proofs.Ytnkicbopebgppaa

/-! One step of the script: all but the changes. -/
namespace Go.Proofs.Ytnkicbopebgppaa
open Go.RowKit Fl

set_option maxRecDepth 100000 in
set_option maxHeartbeats 3200000 in
theorem step_num (own : Nat → Nat) (a hd m : Nat) (c : Cf) (A B C : Int) (s : ByteArray) (w : World) (h : WoAt own w a hd m c) (h1 : -9223372036854775808 ≤ A) (h2 : A ≤ 9223372036854775807) (h3 : -9223372036854775808 ≤ B) (h4 : B ≤ 9223372036854775807) :
    Calls Try.prog 12 #[.pointer (some ⟨a, 0, none⟩), .agg #[.int .i64 1, .int .i64 A, .int .i64 B, .int .i64 C, .string s]] w fun e w' => e = .returned (.tuple #[]) ∧ WoPostC own w w' a hd (m + 1) := by
  obtain ⟨ax, p, b, h⟩ := h
  have hbe : Below w.heap.size w (w.alloc (Obj.cells #[.int .i64 1, .int .i64 A, .int .i64 B, .int .i64 C, .string s] 27)) := (Below.refl _ _).alloc (Nat.le_refl _) _
  have HB : Bx _ := ⟨hbe⟩
  have H1 : Bx _ := ⟨h.below hbe⟩
  have HO : Bx (own w.heap.size = 0) := ⟨h.jk _ (Nat.le_refl _)⟩
  have HL : Bx (w.heap.size < (w.alloc (Obj.cells #[.int .i64 1, .int .i64 A, .int .i64 B, .int .i64 C, .string s] 27)).heap.size) := ⟨by simp⟩
  have BX : ∀ i u, #[Value.int .i64 1, .int .i64 A, .int .i64 B, .int .i64 C, .string s][i]? = some u → (w.alloc (Obj.cells #[.int .i64 1, .int .i64 A, .int .i64 B, .int .i64 C, .string s] 27)).cell? ⟨w.heap.size, i, none⟩ = some u := by
    intro i u hu
    rw [World.cell?_alloc_at _ _ _ _ rfl]
    exact hu
  have b0 := BX 0 _ rfl
  have b1 := BX 1 _ rfl
  have b2 := BX 2 _ rfl
  have b3 := BX 3 _ rfl
  have b4 := BX 4 _ rfl
  obtain ⟨gb, Hgb⟩ : ∃ gb, Bx (w.heap.size = gb) := ⟨_, ⟨rfl⟩⟩
  obtain ⟨K, HK⟩ : ∃ K, Bx (pickOf A 9 = K) := ⟨_, ⟨rfl⟩⟩
  have hK : K < 9 := by rw [← HK.out]; exact pickOf_lt A 9 (by omega)
  have HP : Bx _ := ⟨fun wx => pick_any A 9 K wx h1 h2 (by omega) (by omega) HK⟩
  clear h hbe BX
  go_enter Try.func12, Try.ntmps12
  go_upto_region 1 with fail
  rw [Hgb.out] at b0 b1 b2 b3 b4 HO HL ⊢
  generalize w.alloc (Obj.cells #[.int .i64 1, .int .i64 A, .int .i64 B, .int .i64 C, .string s] 27) = w1 at *
  go_wp2_with fail
  refine (HP.out _).mono ?_
  rintro e wz ⟨rfl, hz⟩
  subst hz
  go_wp2_with fail
  refine (number_any own a hd m K c B _ hK ⟨ax, p, b, H1.out⟩ h3 h4).mono ?_
  rintro e w2 ⟨rfl, hp⟩
  have HZ : Bx (WoPostC own w w2 a hd (m + 1)) := ⟨WoPostC.before HB.out hp⟩
  clear hp b0 b1 b2 b3 b4
  go_wp2_with fail
  go_end0
  exact ⟨rfl, HZ.out⟩

set_option maxRecDepth 100000 in
set_option maxHeartbeats 3200000 in
theorem step_key (own : Nat → Nat) (a hd m : Nat) (c : Cf) (A B C : Int) (s : ByteArray) (w : World) (h : WoAt own w a hd m c) :
    Calls Try.prog 12 #[.pointer (some ⟨a, 0, none⟩), .agg #[.int .i64 2, .int .i64 A, .int .i64 B, .int .i64 C, .string s]] w fun e w' => e = .returned (.tuple #[]) ∧ WoPostC own w w' a hd (m + 1) := by
  obtain ⟨ax, p, b, h⟩ := h
  have hbe : Below w.heap.size w (w.alloc (Obj.cells #[.int .i64 2, .int .i64 A, .int .i64 B, .int .i64 C, .string s] 27)) := (Below.refl _ _).alloc (Nat.le_refl _) _
  have HB : Bx _ := ⟨hbe⟩
  have H1 : Bx _ := ⟨h.below hbe⟩
  have HO : Bx (own w.heap.size = 0) := ⟨h.jk _ (Nat.le_refl _)⟩
  have HL : Bx (w.heap.size < (w.alloc (Obj.cells #[.int .i64 2, .int .i64 A, .int .i64 B, .int .i64 C, .string s] 27)).heap.size) := ⟨by simp⟩
  have BX : ∀ i u, #[Value.int .i64 2, .int .i64 A, .int .i64 B, .int .i64 C, .string s][i]? = some u → (w.alloc (Obj.cells #[.int .i64 2, .int .i64 A, .int .i64 B, .int .i64 C, .string s] 27)).cell? ⟨w.heap.size, i, none⟩ = some u := by
    intro i u hu
    rw [World.cell?_alloc_at _ _ _ _ rfl]
    exact hu
  have b0 := BX 0 _ rfl
  have b1 := BX 1 _ rfl
  have b2 := BX 2 _ rfl
  have b3 := BX 3 _ rfl
  have b4 := BX 4 _ rfl
  obtain ⟨gb, Hgb⟩ : ∃ gb, Bx (w.heap.size = gb) := ⟨_, ⟨rfl⟩⟩
  clear h hbe BX
  go_enter Try.func12, Try.ntmps12
  go_upto_region 1 with fail
  rw [Hgb.out] at b0 b1 b2 b3 b4 HO HL ⊢
  generalize w.alloc (Obj.cells #[.int .i64 2, .int .i64 A, .int .i64 B, .int .i64 C, .string s] 27) = w1 at *
  go_wp2_with fail
  refine (fill_any s 16 _ (by omega)).mono ?_
  rintro e w2 ⟨k, rfl, hk, hb2⟩
  have H2 : Bx _ := ⟨H1.out.below hb2⟩
  have HB2 : Bx (Below w.heap.size w w2) := ⟨HB.out.trans (hb2.mono HB.out.size)⟩
  obtain ⟨vF, vH, g, hbo⟩ := H2.out.bo
  have c12 : w2.cell? ⟨a, 12, none⟩ = some (.string c.key) := hbo.cell 12 (by omega)
  have hz := hbo.frozen
  have HZ : Bx (WoPostC own w (w2.setCell ⟨a, 12, none⟩ (.string k)) a hd (m + 1)) := ⟨WoPostC.before HB2.out (H2.out.key k hk)⟩
  clear hb2 hbo b0 b1 b2 b3 b4 H1 H2
  go_wp2_with fail
  go_end0
  exact ⟨rfl, HZ.out⟩

set_option maxRecDepth 100000 in
set_option maxHeartbeats 3200000 in
theorem step_port (own : Nat → Nat) (a hd m : Nat) (c : Cf) (A B C : Int) (s : ByteArray) (w : World) (h : WoAt own w a hd m c) :
    Calls Try.prog 12 #[.pointer (some ⟨a, 0, none⟩), .agg #[.int .i64 3, .int .i64 A, .int .i64 B, .int .i64 C, .string s]] w fun e w' => e = .returned (.tuple #[]) ∧ WoPostC own w w' a hd (m + 1) := by
  obtain ⟨ax, p, b, h⟩ := h
  have hbe : Below w.heap.size w (w.alloc (Obj.cells #[.int .i64 3, .int .i64 A, .int .i64 B, .int .i64 C, .string s] 27)) := (Below.refl _ _).alloc (Nat.le_refl _) _
  have HB : Bx _ := ⟨hbe⟩
  have H1 : Bx _ := ⟨h.below hbe⟩
  have HO : Bx (own w.heap.size = 0) := ⟨h.jk _ (Nat.le_refl _)⟩
  have HL : Bx (w.heap.size < (w.alloc (Obj.cells #[.int .i64 3, .int .i64 A, .int .i64 B, .int .i64 C, .string s] 27)).heap.size) := ⟨by simp⟩
  have BX : ∀ i u, #[Value.int .i64 3, .int .i64 A, .int .i64 B, .int .i64 C, .string s][i]? = some u → (w.alloc (Obj.cells #[.int .i64 3, .int .i64 A, .int .i64 B, .int .i64 C, .string s] 27)).cell? ⟨w.heap.size, i, none⟩ = some u := by
    intro i u hu
    rw [World.cell?_alloc_at _ _ _ _ rfl]
    exact hu
  have b0 := BX 0 _ rfl
  have b1 := BX 1 _ rfl
  have b2 := BX 2 _ rfl
  have b3 := BX 3 _ rfl
  have b4 := BX 4 _ rfl
  obtain ⟨gb, Hgb⟩ : ∃ gb, Bx (w.heap.size = gb) := ⟨_, ⟨rfl⟩⟩
  clear h hbe BX
  go_enter Try.func12, Try.ntmps12
  go_upto_region 1 with fail
  rw [Hgb.out] at b0 b1 b2 b3 b4 HO HL ⊢
  generalize w.alloc (Obj.cells #[.int .i64 3, .int .i64 A, .int .i64 B, .int .i64 C, .string s] 27) = w1 at *
  go_wp2_with fail
  refine (begin_step own a hd m c _ ⟨ax, p, b, H1.out⟩).mono ?_
  rintro e w2 ⟨rfl, hp⟩
  have HZ : Bx (WoPostC own w w2 a hd (m + 1)) := ⟨WoPostC.before HB.out (WoPostC.of hp)⟩
  clear hp b0 b1 b2 b3 b4
  go_wp2_with fail
  go_end0
  exact ⟨rfl, HZ.out⟩

set_option maxRecDepth 100000 in
set_option maxHeartbeats 3200000 in
theorem step_arrive (own : Nat → Nat) (a hd m : Nat) (c : Cf) (A B C : Int) (s : ByteArray) (w : World) (h : WoAt own w a hd m c) (hm : m < 16777216) (hH : HonestIs) :
    Calls Try.prog 12 #[.pointer (some ⟨a, 0, none⟩), .agg #[.int .i64 4, .int .i64 A, .int .i64 B, .int .i64 C, .string s]] w fun e w' => e = .returned (.tuple #[]) ∧ WoPostC own w w' a hd (m + 1) := by
  obtain ⟨ax, p, b, h⟩ := h
  have hbe : Below w.heap.size w (w.alloc (Obj.cells #[.int .i64 4, .int .i64 A, .int .i64 B, .int .i64 C, .string s] 27)) := (Below.refl _ _).alloc (Nat.le_refl _) _
  have HB : Bx _ := ⟨hbe⟩
  have H1 : Bx _ := ⟨h.below hbe⟩
  have HO : Bx (own w.heap.size = 0) := ⟨h.jk _ (Nat.le_refl _)⟩
  have HL : Bx (w.heap.size < (w.alloc (Obj.cells #[.int .i64 4, .int .i64 A, .int .i64 B, .int .i64 C, .string s] 27)).heap.size) := ⟨by simp⟩
  have BX : ∀ i u, #[Value.int .i64 4, .int .i64 A, .int .i64 B, .int .i64 C, .string s][i]? = some u → (w.alloc (Obj.cells #[.int .i64 4, .int .i64 A, .int .i64 B, .int .i64 C, .string s] 27)).cell? ⟨w.heap.size, i, none⟩ = some u := by
    intro i u hu
    rw [World.cell?_alloc_at _ _ _ _ rfl]
    exact hu
  have b0 := BX 0 _ rfl
  have b1 := BX 1 _ rfl
  have b2 := BX 2 _ rfl
  have b3 := BX 3 _ rfl
  have b4 := BX 4 _ rfl
  obtain ⟨gb, Hgb⟩ : ∃ gb, Bx (w.heap.size = gb) := ⟨_, ⟨rfl⟩⟩
  have HHO : Bx _ := ⟨hH⟩
  clear hH
  clear h hbe BX
  go_enter Try.func12, Try.ntmps12
  go_upto_region 1 with fail
  rw [Hgb.out] at b0 b1 b2 b3 b4 HO HL ⊢
  generalize w.alloc (Obj.cells #[.int .i64 4, .int .i64 A, .int .i64 B, .int .i64 C, .string s] 27) = w1 at *
  go_wp2_with fail
  refine (arrives_any own a hd m c s false _ ⟨ax, p, b, H1.out⟩ hm (fun e => by cases e) HHO.out).mono ?_
  rintro e w2 ⟨rfl, hp⟩
  have HZ : Bx (WoPostC own w w2 a hd (m + 1)) := ⟨WoPostC.before HB.out (WoPostC.of hp)⟩
  clear hp b0 b1 b2 b3 b4
  go_wp2_with fail
  go_end0
  exact ⟨rfl, HZ.out⟩

set_option maxRecDepth 100000 in
set_option maxHeartbeats 3200000 in
theorem step_time (own : Nat → Nat) (a hd m : Nat) (c : Cf) (A B C : Int) (s : ByteArray) (w : World) (h : WoAt own w a hd m c) (hm : m < 16777216) (hH : HonestIs) :
    Calls Try.prog 12 #[.pointer (some ⟨a, 0, none⟩), .agg #[.int .i64 5, .int .i64 A, .int .i64 B, .int .i64 C, .string s]] w fun e w' => e = .returned (.tuple #[]) ∧ WoPostC own w w' a hd (m + 1) := by
  obtain ⟨ax, p, b, h⟩ := h
  have hbe : Below w.heap.size w (w.alloc (Obj.cells #[.int .i64 5, .int .i64 A, .int .i64 B, .int .i64 C, .string s] 27)) := (Below.refl _ _).alloc (Nat.le_refl _) _
  have HB : Bx _ := ⟨hbe⟩
  have H1 : Bx _ := ⟨h.below hbe⟩
  have HO : Bx (own w.heap.size = 0) := ⟨h.jk _ (Nat.le_refl _)⟩
  have HL : Bx (w.heap.size < (w.alloc (Obj.cells #[.int .i64 5, .int .i64 A, .int .i64 B, .int .i64 C, .string s] 27)).heap.size) := ⟨by simp⟩
  have BX : ∀ i u, #[Value.int .i64 5, .int .i64 A, .int .i64 B, .int .i64 C, .string s][i]? = some u → (w.alloc (Obj.cells #[.int .i64 5, .int .i64 A, .int .i64 B, .int .i64 C, .string s] 27)).cell? ⟨w.heap.size, i, none⟩ = some u := by
    intro i u hu
    rw [World.cell?_alloc_at _ _ _ _ rfl]
    exact hu
  have b0 := BX 0 _ rfl
  have b1 := BX 1 _ rfl
  have b2 := BX 2 _ rfl
  have b3 := BX 3 _ rfl
  have b4 := BX 4 _ rfl
  obtain ⟨gb, Hgb⟩ : ∃ gb, Bx (w.heap.size = gb) := ⟨_, ⟨rfl⟩⟩
  have HHO : Bx _ := ⟨hH⟩
  clear hH
  clear h hbe BX
  go_enter Try.func12, Try.ntmps12
  go_upto_region 1 with fail
  rw [Hgb.out] at b0 b1 b2 b3 b4 HO HL ⊢
  generalize w.alloc (Obj.cells #[.int .i64 5, .int .i64 A, .int .i64 B, .int .i64 C, .string s] 27) = w1 at *
  go_wp2_with fail
  refine (passes_any own a hd m c A _ ⟨ax, p, b, H1.out⟩ (by omega) HHO.out).mono ?_
  rintro e w2 ⟨rfl, hp⟩
  have HZ : Bx (WoPostC own w w2 a hd (m + 1)) := ⟨WoPostC.before HB.out (WoPostC.of hp)⟩
  clear hp b0 b1 b2 b3 b4
  go_wp2_with fail
  go_end0
  exact ⟨rfl, HZ.out⟩

set_option maxRecDepth 100000 in
set_option maxHeartbeats 3200000 in
theorem step_rest (own : Nat → Nat) (a hd m : Nat) (c : Cf) (A B C : Int) (s : ByteArray) (w : World) (h : WoAt own w a hd m c) (hm : m < 16777216) (hH : HonestIs) :
    Calls Try.prog 12 #[.pointer (some ⟨a, 0, none⟩), .agg #[.int .i64 9, .int .i64 A, .int .i64 B, .int .i64 C, .string s]] w fun e w' => e = .returned (.tuple #[]) ∧ WoPostC own w w' a hd (m + 1) := by
  obtain ⟨ax, p, b, h⟩ := h
  have hbe : Below w.heap.size w (w.alloc (Obj.cells #[.int .i64 9, .int .i64 A, .int .i64 B, .int .i64 C, .string s] 27)) := (Below.refl _ _).alloc (Nat.le_refl _) _
  have HB : Bx _ := ⟨hbe⟩
  have H1 : Bx _ := ⟨h.below hbe⟩
  have HO : Bx (own w.heap.size = 0) := ⟨h.jk _ (Nat.le_refl _)⟩
  have HL : Bx (w.heap.size < (w.alloc (Obj.cells #[.int .i64 9, .int .i64 A, .int .i64 B, .int .i64 C, .string s] 27)).heap.size) := ⟨by simp⟩
  have BX : ∀ i u, #[Value.int .i64 9, .int .i64 A, .int .i64 B, .int .i64 C, .string s][i]? = some u → (w.alloc (Obj.cells #[.int .i64 9, .int .i64 A, .int .i64 B, .int .i64 C, .string s] 27)).cell? ⟨w.heap.size, i, none⟩ = some u := by
    intro i u hu
    rw [World.cell?_alloc_at _ _ _ _ rfl]
    exact hu
  have b0 := BX 0 _ rfl
  have b1 := BX 1 _ rfl
  have b2 := BX 2 _ rfl
  have b3 := BX 3 _ rfl
  have b4 := BX 4 _ rfl
  obtain ⟨gb, Hgb⟩ : ∃ gb, Bx (w.heap.size = gb) := ⟨_, ⟨rfl⟩⟩
  have HHO : Bx _ := ⟨hH⟩
  clear hH
  clear h hbe BX
  go_enter Try.func12, Try.ntmps12
  go_upto_region 1 with fail
  rw [Hgb.out] at b0 b1 b2 b3 b4 HO HL ⊢
  generalize w.alloc (Obj.cells #[.int .i64 9, .int .i64 A, .int .i64 B, .int .i64 C, .string s] 27) = w1 at *
  go_wp2_with fail
  refine (rests_any own a hd m c _ ⟨ax, p, b, H1.out⟩ (by omega) HHO.out).mono ?_
  rintro e w2 ⟨rfl, hp⟩
  have HZ : Bx (WoPostC own w w2 a hd (m + 1)) := ⟨WoPostC.before HB.out (WoPostC.of hp)⟩
  clear hp b0 b1 b2 b3 b4
  go_wp2_with fail
  go_end0
  exact ⟨rfl, HZ.out⟩

set_option maxRecDepth 100000 in
set_option maxHeartbeats 3200000 in
theorem step_none (own : Nat → Nat) (a hd m : Nat) (c : Cf) (kd A B C : Int) (s : ByteArray) (w : World) (h : WoAt own w a hd m c) (e1 : (kd == 1) = false) (e2 : (kd == 2) = false) (e3 : (kd == 3) = false) (e4 : (kd == 4) = false) (e5 : (kd == 5) = false) (e6 : (kd == 6) = false) (e7 : (kd == 7) = false) (e8 : (kd == 8) = false) (e9 : (kd == 9) = false) :
    Calls Try.prog 12 #[.pointer (some ⟨a, 0, none⟩), .agg #[.int .i64 kd, .int .i64 A, .int .i64 B, .int .i64 C, .string s]] w fun e w' => e = .returned (.tuple #[]) ∧ WoPostC own w w' a hd (m + 1) := by
  obtain ⟨ax, p, b, h⟩ := h
  have hbe : Below w.heap.size w (w.alloc (Obj.cells #[.int .i64 kd, .int .i64 A, .int .i64 B, .int .i64 C, .string s] 27)) := (Below.refl _ _).alloc (Nat.le_refl _) _
  have HB : Bx _ := ⟨hbe⟩
  have H1 : Bx _ := ⟨h.below hbe⟩
  have HO : Bx (own w.heap.size = 0) := ⟨h.jk _ (Nat.le_refl _)⟩
  have HL : Bx (w.heap.size < (w.alloc (Obj.cells #[.int .i64 kd, .int .i64 A, .int .i64 B, .int .i64 C, .string s] 27)).heap.size) := ⟨by simp⟩
  have BX : ∀ i u, #[Value.int .i64 kd, .int .i64 A, .int .i64 B, .int .i64 C, .string s][i]? = some u → (w.alloc (Obj.cells #[.int .i64 kd, .int .i64 A, .int .i64 B, .int .i64 C, .string s] 27)).cell? ⟨w.heap.size, i, none⟩ = some u := by
    intro i u hu
    rw [World.cell?_alloc_at _ _ _ _ rfl]
    exact hu
  have b0 := BX 0 _ rfl
  have b1 := BX 1 _ rfl
  have b2 := BX 2 _ rfl
  have b3 := BX 3 _ rfl
  have b4 := BX 4 _ rfl
  obtain ⟨gb, Hgb⟩ : ∃ gb, Bx (w.heap.size = gb) := ⟨_, ⟨rfl⟩⟩
  clear h hbe BX
  go_enter Try.func12, Try.ntmps12
  go_upto_region 1 with fail
  rw [Hgb.out] at b0 b1 b2 b3 b4 HO HL ⊢
  generalize w.alloc (Obj.cells #[.int .i64 kd, .int .i64 A, .int .i64 B, .int .i64 C, .string s] 27) = w1 at *
  have HZ : Bx (WoPostC own w w1 a hd (m + 1)) := ⟨WoPostC.before HB.out (WoPostC.of (WoAt.post ⟨ax, p, b, H1.out⟩ (by omega)))⟩
  go_wp2_with fail
  go_end0
  exact ⟨rfl, HZ.out⟩

set_option maxRecDepth 100000 in
set_option maxHeartbeats 3200000 in
theorem step_flow (own : Nat → Nat) (a hd m : Nat) (c : Cf) (A B C : Int) (s : ByteArray) (w : World) (h : WoAt own w a hd m c) (h1 : -9223372036854775808 ≤ A) (h2 : A ≤ 9223372036854775807) (h3 : -9223372036854775808 ≤ B) (h4 : B ≤ 9223372036854775807) (hm : m < 16777216) (hH : HonestIs) :
    Calls Try.prog 12 #[.pointer (some ⟨a, 0, none⟩), .agg #[.int .i64 8, .int .i64 A, .int .i64 B, .int .i64 C, .string s]] w fun e w' => e = .returned (.tuple #[]) ∧ WoPostC own w w' a hd (m + 1) := by
  obtain ⟨ax, p, b, h⟩ := h
  have hbe : Below w.heap.size w (w.alloc (Obj.cells #[.int .i64 8, .int .i64 A, .int .i64 B, .int .i64 C, .string s] 27)) := (Below.refl _ _).alloc (Nat.le_refl _) _
  have HB : Bx _ := ⟨hbe⟩
  have H1 : Bx _ := ⟨h.below hbe⟩
  have HO : Bx (own w.heap.size = 0) := ⟨h.jk _ (Nat.le_refl _)⟩
  have HL : Bx (w.heap.size < (w.alloc (Obj.cells #[.int .i64 8, .int .i64 A, .int .i64 B, .int .i64 C, .string s] 27)).heap.size) := ⟨by simp⟩
  have BX : ∀ i u, #[Value.int .i64 8, .int .i64 A, .int .i64 B, .int .i64 C, .string s][i]? = some u → (w.alloc (Obj.cells #[.int .i64 8, .int .i64 A, .int .i64 B, .int .i64 C, .string s] 27)).cell? ⟨w.heap.size, i, none⟩ = some u := by
    intro i u hu
    rw [World.cell?_alloc_at _ _ _ _ rfl]
    exact hu
  have b0 := BX 0 _ rfl
  have b1 := BX 1 _ rfl
  have b2 := BX 2 _ rfl
  have b3 := BX 3 _ rfl
  have b4 := BX 4 _ rfl
  obtain ⟨gb, Hgb⟩ : ∃ gb, Bx (w.heap.size = gb) := ⟨_, ⟨rfl⟩⟩
  have HHO : Bx _ := ⟨hH⟩
  clear hH
  have hon : b.on = p.c := (h.jb 0).j.jq.on
  have hl1 := (h.jb 0).ok.c.l1
  have hl2 := (h.jb 0).ok.c.l2
  obtain ⟨K, HK⟩ : ∃ K, Bx (pickOf A 64 = K) := ⟨_, ⟨rfl⟩⟩
  have hK : K < 64 := by rw [← HK.out]; exact pickOf_lt A 64 (by omega)
  have HP : Bx _ := ⟨fun wx => pick_any A 64 K wx h1 h2 (by omega) (by omega) HK⟩
  obtain ⟨L, HL2, eL⟩ : ∃ L : Nat, Bx (p.c.length - 19 = L) ∧ (p.c.length : Int) - 19 = L := ⟨_, ⟨rfl⟩, by omega⟩
  have hL1 : 1 ≤ L := by have := HL2.out; omega
  obtain ⟨N, HN⟩ : ∃ N, Bx (pickOf B L = N) := ⟨_, ⟨rfl⟩⟩
  have hN : N < L := by rw [← HN.out]; exact pickOf_lt B L hL1
  have HQ : Bx _ := ⟨fun wx => pick_any B L N wx h3 h4 hL1 (by have := HL2.out; omega) HN⟩
  have hNn : 20 + N ≤ 200 := by have := HL2.out; omega
  have c18 : (w.alloc (Obj.cells #[.int .i64 8, .int .i64 A, .int .i64 B, .int .i64 C, .string s] 27)).cell? ⟨a, 18, none⟩ = some (.int .i64 p.c.length) := by
    obtain ⟨vF, vH, g, hbo⟩ := H1.out.bo
    have := hbo.cell 18 (by omega)
    rw [this]
    show some (Value.int .i64 b.on.length) = _
    rw [hon]
  clear hon
  clear h hbe BX
  go_enter Try.func12, Try.ntmps12
  go_upto_region 1 with fail
  rw [Hgb.out] at b0 b1 b2 b3 b4 HO HL ⊢
  generalize w.alloc (Obj.cells #[.int .i64 8, .int .i64 A, .int .i64 B, .int .i64 C, .string s] 27) = w1 at *
  go_upto_region 23 with fail
  go_quiet ((go_at_call 16; exact Calls.quiet_of_same (HQ.out _)))
  have H2 : Bx _ := ⟨H1.out.below ((Below.refl _ _).drewN nq)⟩
  have HB2 : Bx (Below w.heap.size w (w1.drewN nq)) := ⟨HB.out.drewN nq⟩
  have Y : ∀ (q : Addr), (w1.drewN nq).cell? q = w1.cell? q := fun _ => rfl
  rw [← Y] at b1 b3
  clear Y b0 b2 b4 c18 H1 HB
  have HL3 : Bx (gb < (w1.drewN nq).heap.size) := ⟨HL.out⟩
  clear HL
  generalize w1.drewN nq = w2 at *
  have e20 : (20 : Int) + (N : Int) = ((20 + N : Nat) : Int) := by omega
  obtain ⟨M, HM, eM⟩ : ∃ M : Nat, Bx (20 + N = M) ∧ (20 : Int) + (N : Int) = M := ⟨20 + N, ⟨rfl⟩, by omega⟩
  have hM1 : 20 ≤ M := by have := HM.out; omega
  have hM2 : M ≤ 200 := by have := HM.out; omega
  clear e20
  go_wp2_with fail
  refine (HP.out _).mono ?_
  rintro e wz ⟨rfl, hz⟩
  subst hz
  by_cases hc : bits .and .i64 C 1 = 1
  · have hcb : (bits .and .i64 C 1 == 1) = true := by simp [hc]
    go_wp2_with fail
    refine (flow_yes K M _ hK hM1 hM2).mono ?_
    rintro e w3 ⟨t, rfl, hcan, hts, hb3⟩
    have b3' : w3.cell? ⟨gb, 3, none⟩ = some (.int .i64 C) := (hb3.cell (p := ⟨gb, 3, none⟩) HL3.out).trans b3
    have H3 : Bx _ := ⟨H2.out.below hb3⟩
    have HB3 : Bx (Below w.heap.size w w3) := ⟨HB2.out.trans (hb3.mono HB2.out.size)⟩
    clear hb3 b3 b1 H2 HB2
    go_wp2_with fail
    refine (arrives_any own a hd m c t true _ ⟨ax, p, b, H3.out⟩ hm (fun _ => hcan) HHO.out).mono ?_
    rintro e w4 ⟨rfl, hp⟩
    have HZ : Bx (WoPostC own w w4 a hd (m + 1)) := ⟨WoPostC.before HB3.out (WoPostC.of hp)⟩
    clear hp b3'
    go_wp2_with fail
    go_end0
    exact ⟨rfl, HZ.out⟩
  · have hcb : (bits .and .i64 C 1 == 1) = false := by simp [hc]
    go_wp2_with fail
    refine (flow_no K M _ hK hM1 hM2).mono ?_
    rintro e w3 ⟨t, rfl, hts, hb3⟩
    have b3' : w3.cell? ⟨gb, 3, none⟩ = some (.int .i64 C) := (hb3.cell (p := ⟨gb, 3, none⟩) HL3.out).trans b3
    have H3 : Bx _ := ⟨H2.out.below hb3⟩
    have HB3 : Bx (Below w.heap.size w w3) := ⟨HB2.out.trans (hb3.mono HB2.out.size)⟩
    clear hb3 b3 b1 H2 HB2
    go_wp2_with fail
    refine (arrives_any own a hd m c t false _ ⟨ax, p, b, H3.out⟩ hm (fun e => by cases e) HHO.out).mono ?_
    rintro e w4 ⟨rfl, hp⟩
    have HZ : Bx (WoPostC own w w4 a hd (m + 1)) := ⟨WoPostC.before HB3.out (WoPostC.of hp)⟩
    clear hp b3'
    go_wp2_with fail
    go_end0
    exact ⟨rfl, HZ.out⟩

end Go.Proofs.Ytnkicbopebgppaa
