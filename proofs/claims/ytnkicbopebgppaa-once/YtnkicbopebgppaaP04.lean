import Derived.Test.YtnkicbopebgppaaP03
namespace Go.Proofs.Ytnkicbopebgppaa
open Go.RowKit Fl

/-- Frame j lies at ⟨g, off + j * 3⟩. -/
structure FmAt (w : World) (g p : Nat) (f : Fm) : Prop where
  c0 : w.cell? ⟨g, p, none⟩ = some (.int .i64 f.id)
  c1 : w.cell? ⟨g, p + 1, none⟩ = some (.string f.s)
  c2 : w.cell? ⟨g, p + 2, none⟩ = some (.int .i64 f.since)

theorem FmAt.store {w : World} {g p : Nat} {f : Fm} (h : FmAt w g p f) (k : Fm) :
    FmAt (((w.setCell ⟨g, p, none⟩ (.int .i64 k.id)).setCell ⟨g, p + 1, none⟩ (.string k.s)).setCell ⟨g, p + 2, none⟩ (.int .i64 k.since)) g p k := by
  obtain ⟨h0, h1, h2⟩ := h
  refine ⟨?_, ?_, ?_⟩ <;> go_simp

theorem FmAt.other {w : World} {g p q : Nat} {f : Fm} (h : FmAt w g p f) (x y z : Value) (hpq : p + 2 < q ∨ q + 2 < p) :
    FmAt (((w.setCell ⟨g, q, none⟩ x).setCell ⟨g, q + 1, none⟩ y).setCell ⟨g, q + 2, none⟩ z) g p f := by
  obtain ⟨h0, h1, h2⟩ := h
  have hne : ∀ i j, i < 3 → j < 3 → (⟨g, q + i, none⟩ : Addr) ≠ ⟨g, p + j, none⟩ := by intro i j hi hj e; injection e with _ e2; omega
  have t : ∀ j, j < 3 → ∀ u, w.cell? ⟨g, p + j, none⟩ = some u → (((w.setCell ⟨g, q, none⟩ x).setCell ⟨g, q + 1, none⟩ y).setCell ⟨g, q + 2, none⟩ z).cell? ⟨g, p + j, none⟩ = some u := by
    intro j hj u hu
    rw [World.cell?_setCell_other _ _ _ _ (hne 2 j (by omega) hj), World.cell?_setCell_other _ _ _ _ (hne 1 j (by omega) hj)]
    exact (World.cell?_setCell_other _ _ _ _ (hne 0 j (by omega) hj)).trans hu
  exact ⟨t 0 (by omega) _ h0, t 1 (by omega) _ h1, t 2 (by omega) _ h2⟩

/-- Cells that are there. -/
structure Room (w : World) (g off m : Nat) : Prop where
  is : ∀ j, j < m → ∃ u, w.cell? ⟨g, off + j, none⟩ = some u

theorem Room.set {w : World} {g off m : Nat} (h : Room w g off m) (a : Addr) (v : Value) : Room (w.setCell a v) g off m :=
  ⟨fun j hj => by obtain ⟨u, hu⟩ := h.is j hj; exact cell?_setCell_some hu⟩

theorem fmCells_get : ∀ (l : List Fm) (j : Nat) (h : j < l.length), (fmCells l)[j * 3]? = some (.int .i64 l[j].id) ∧ (fmCells l)[j * 3 + 1]? = some (.string l[j].s) ∧ (fmCells l)[j * 3 + 2]? = some (.int .i64 l[j].since)
  | f :: l, 0, _ => ⟨rfl, rfl, rfl⟩
  | f :: l, j + 1, h => by
    have e : fmCells (f :: l) = [.int .i64 f.id, .string f.s, .int .i64 f.since] ++ fmCells l := rfl
    have := fmCells_get l j (by simpa using h)
    rw [e, List.getElem?_append_right (by simp; omega), List.getElem?_append_right (by simp; omega), List.getElem?_append_right (by simp; omega)]
    simp only [List.length_cons, List.length_nil, List.getElem_cons_succ]
    rw [show (j + 1) * 3 - (0 + 1 + 1 + 1) = j * 3 by omega, show (j + 1) * 3 + 1 - (0 + 1 + 1 + 1) = j * 3 + 1 by omega, show (j + 1) * 3 + 2 - (0 + 1 + 1 + 1) = j * 3 + 2 by omega]
    exact this

theorem fmCells_at {w : World} {g off : Nat} {l : List Fm} (h : ∀ j u, (fmCells l)[j]? = some u → w.cell? ⟨g, off + j, none⟩ = some u) (j : Nat) (hj : j < l.length) : FmAt w g (off + j * 3) l[j] := by
  obtain ⟨h0, h1, h2⟩ := fmCells_get l j hj
  exact ⟨h _ _ h0, h _ _ h1, h _ _ h2⟩

theorem fmCells_of {w : World} {g off : Nat} {l : List Fm} (h : ∀ j (hj : j < l.length), FmAt w g (off + j * 3) l[j]) : ∀ j u, (fmCells l)[j]? = some u → w.cell? ⟨g, off + j, none⟩ = some u := by
  intro j u hu
  have hlt : j < (fmCells l).length := (List.getElem?_eq_some_iff.1 hu).1
  rw [fmCells_length] at hlt
  have hq : j / 3 < l.length := by omega
  obtain ⟨g0, g1, g2⟩ := fmCells_get l (j / 3) hq
  obtain ⟨c0, c1, c2⟩ := h (j / 3) hq
  have h3 : j = j / 3 * 3 ∨ j = j / 3 * 3 + 1 ∨ j = j / 3 * 3 + 2 := by omega
  rcases h3 with e | e | e
  · rw [e] at hu ⊢; rw [g0] at hu; cases hu; exact c0
  · rw [e] at hu ⊢; rw [g1] at hu; cases hu; rw [← Nat.add_assoc]; exact c1
  · rw [e] at hu ⊢; rw [g2] at hu; cases hu; rw [← Nat.add_assoc]; exact c2

def fAt (fr : Fm) (l : List Fm) (j : Nat) : Fm := (fr :: l).getD j fr

theorem fAt_get (fr : Fm) (l : List Fm) (j : Nat) (h : j < (fr :: l).length) : fAt fr l j = (fr :: l)[j] := by
  unfold fAt; rw [List.getD_eq_getElem?_getD, List.getElem?_eq_getElem h]; rfl

theorem fAt_succ (fr : Fm) (l : List Fm) (j : Nat) (h : j < l.length) : fAt fr l (j + 1) = l[j] := fAt_get fr l (j + 1) (by simp; omega)

theorem _root_.Fl.Only.store3 {g : Nat} {u w : World} (h : Only g u w) (p : Nat) (x y z : Value) : Only g u (((w.setCell ⟨g, p, none⟩ x).setCell ⟨g, p + 1, none⟩ y).setCell ⟨g, p + 2, none⟩ z) :=
  ((h.setCell p x).setCell (p + 1) y).setCell (p + 2) z

theorem _root_.Fl.Fr.only {T : Nat → Prop} {own own' : Nat → Nat} {w w1 w2 : World} {g : Nat} (h : Fr T own own' w w1) (k : Only g w1 w2) (hg : T (own' g)) : Fr T own own' w w2 :=
  h.trans ⟨k.os, k.tape, k.output, k.size, fun _ _ => rfl, fun x hx ht => k.block x hx (fun e => ht (by rw [e]; exact hg)), fun j x hx => j x (Nat.le_trans k.size hx)⟩

theorem frozen_store3 (w : World) (g p : Nat) (x y z : Value) (a : Addr) : (((w.setCell ⟨g, p, none⟩ x).setCell ⟨g, p + 1, none⟩ y).setCell ⟨g, p + 2, none⟩ z).frozen? a = w.frozen? a := by
  rw [World.frozen?_setCell, World.frozen?_setCell, World.frozen?_setCell]

set_option maxRecDepth 100000 in
set_option maxHeartbeats 1600000 in
theorem qleave_yes (own : Nat → Nat) (tB tq b o N ty : Nat) (f : Nat → Value) (v : Value) (fr : Fm) (l : List Fm) (nb : Nat) (w : World)
    (hrow : Row own w tB b ty N f) (ho : o + 1 < N) (hv : f o = v) (hnb : f (o + 1) = .int .i64 nb) (hsl : Sl anyG own w tq 3 v (fr :: l).length (fmCells (fr :: l))) (htt : tq ≠ tB)
    (hl : l.length ≤ 1000) (hs : fr.s.size ≤ nb) (hb : nb ≤ 1000000) :
    Calls Try.prog 69 #[.pointer (some ⟨b, o, none⟩)] w fun e w' =>
      e = .returned (.tuple #[.agg #[.int .i64 fr.id, .string fr.s, .int .i64 fr.since], .bool true]) ∧ ∃ v', Sl anyG own w' tq 3 v' l.length (fmCells l) ∧
        Row own w' tB b ty N (fun j => if j = o + 1 then .int .i64 (nb - fr.s.size : Nat) else if j = o then v' else f j) ∧ Fr (fun t => t = tB ∨ t = tq) own own w w' := by
  obtain ⟨_, hsl2⟩ := hsl
  rcases hsl2 with ⟨_, hbad⟩ | ⟨g, off, cap, rfl, hog, hgl, hcap, hcm, hcell, hroom, hfg⟩
  · simp at hbad
  have hg : g ≠ b := fun e => htt (by rw [← hog, e]; exact hrow.tag)
  have hfm : ∀ j, j ≤ l.length → FmAt w g (off + j * 3) (fAt fr l j) := fun j hj => by
    have hj2 : j < (fr :: l).length := by simp; omega
    rw [fAt_get fr l j hj2]
    exact fmCells_at hcell j hj2
  have hrm : Room w g off (cap * 3) := ⟨fun j hj => by obtain ⟨u, hu, _⟩ := hroom j hj; exact ⟨u, hu⟩⟩
  clear hcell hroom
  simp only [List.length_cons] at hv hcap
  have c0 := hrow.row.cell (i := o) (by omega)
  have c1 := hrow.row.cell ho
  rw [hv] at c0
  rw [hnb] at c1
  have hfz := hrow.row.frozen
  have hblt := hrow.row.lt
  have hn0 : ((l.length : Int) + 1 == 0) = false := by rw [beq_eq_false_iff_ne]; omega
  obtain ⟨a0, a1, a2⟩ := hfm 0 (by omega)
  simp only [Nat.zero_mul, Nat.add_zero, show fAt fr l 0 = fr from rfl] at a0 a1 a2
  have HFM : Bx (∀ j, j ≤ l.length → FmAt w g (off + j * 3) (fAt fr l j)) := ⟨hfm⟩
  have HCM : Bx (cap ≤ maxLen) := ⟨hcm⟩
  clear hfm hcm
  go_enter Try.func69, Try.ntmps69
  go_wp2_with fail
  obtain ⟨W0, hW0⟩ : ∃ W, W = ((w.alloc (Obj.cells #[.int .i64 0, .string ⟨#[]⟩, .int .i64 0] 98)).alloc (Obj.cells #[.int .i64 fr.id, .string fr.s, .int .i64 fr.since] 98)) := ⟨_, rfl⟩
  have hbW : Below w.heap.size w W0 := by rw [hW0]; exact below2' _ _ _
  have e0 : W0.cell? ⟨w.heap.size + 1, 0, none⟩ = some (.int .i64 fr.id) := by rw [hW0]; go_simp
  have e1 : W0.cell? ⟨w.heap.size + 1, 1, none⟩ = some (.string fr.s) := by rw [hW0]; go_simp
  have e2 : W0.cell? ⟨w.heap.size + 1, 2, none⟩ = some (.int .i64 fr.since) := by rw [hW0]; go_simp
  have r0 : FmAt W0 w.heap.size 0 ⟨0, ⟨#[]⟩, 0⟩ := by rw [hW0]; exact ⟨by go_simp, by go_simp, by go_simp⟩
  have rz : ∀ i, W0.frozen? ⟨w.heap.size, i, none⟩ = false := by intro i; rw [hW0]; go_simp
  have hsW : W0.heap.size = w.heap.size + 2 := by rw [hW0]; simp
  rw [← hW0]
  clear hW0
  go_loopw [6] (fun vi wr => ∃ k : Nat, k ≤ l.length ∧ vi = .int .i64 ((k : Int) + 1) ∧ Only g W0 wr ∧ (∀ j, wr.frozen? ⟨g, j, none⟩ = false) ∧ Room wr g off (cap * 3) ∧ Bx (∀ j, j ≤ l.length → FmAt wr g (off + j * 3) (if j < k then fAt fr l (j + 1) else fAt fr l j)))
    (fun vi _ => l.length + 1 - (intOf vi).toNat)
  case atStart =>
    refine ⟨0, by omega, rfl, Only.refl _ _, fun j => (hbW.frozen (p := ⟨g, j, none⟩) hgl).trans (hfg j), ⟨fun j hj => ?_⟩, ⟨fun j hj => ?_⟩⟩
    · obtain ⟨u, hu⟩ := hrm.is j hj
      exact ⟨u, (hbW.cell (p := ⟨g, _, none⟩) hgl).trans hu⟩
    · rw [if_neg (by omega)]
      obtain ⟨x0, x1, x2⟩ := HFM.out j hj
      exact ⟨(hbW.cell (p := ⟨g, _, none⟩) hgl).trans x0, (hbW.cell (p := ⟨g, _, none⟩) hgl).trans x1, (hbW.cell (p := ⟨g, _, none⟩) hgl).trans x2⟩
  case round =>
    obtain ⟨k, hk, rfl, honly, hfr, hrm2, HJ⟩ := hrel
    have d0 : wr.cell? ⟨b, o, none⟩ = some (.slice (some ⟨g, off, none⟩) (l.length + 1) cap) := (World.cell?_of_block (a := ⟨b, o, none⟩) (honly.block b (by omega) (by omega))).trans ((hbW.cell (p := ⟨b, o, none⟩) hblt).trans c0)
    have d1 : wr.cell? ⟨b, o + 1, none⟩ = some (.int .i64 nb) := (World.cell?_of_block (a := ⟨b, o + 1, none⟩) (honly.block b (by omega) (by omega))).trans ((hbW.cell (p := ⟨b, o + 1, none⟩) hblt).trans c1)
    have dz : ∀ i, wr.frozen? ⟨b, i, none⟩ = false := fun i => (World.frozen?_of_block (a := ⟨b, i, none⟩) (honly.block b (by omega) (by omega))).trans ((hbW.frozen (p := ⟨b, i, none⟩) hblt).trans (hfz i))
    by_cases hlt : k < l.length
    · obtain ⟨x0, x1, x2⟩ := HJ.out (k + 1) (by omega)
      rw [if_neg (by omega)] at x0 x1 x2
      have hk0 := HJ.out k (by omega)
      rw [if_neg (by omega)] at hk0
      have HK0 : Bx (FmAt wr g (off + k * 3) (fAt fr l k)) := ⟨hk0⟩
      obtain ⟨y0, y1, y2⟩ := hk0
      go_wp2_with fail
      go_region
      go_wp2_with fail
      refine ⟨⟨k + 1, by omega, by go_num, (honly.store3 _ _ _ _).drew, fun j => (frozen_store3 _ _ _ _ _ _ _).trans (hfr j), ⟨((hrm2.set _ _).set _ _).set _ _ |>.is⟩, ⟨fun j hj => ?_⟩⟩, by simp [intOf]; omega⟩
      by_cases hjk : j = k
      · subst hjk
        rw [if_pos (by omega)]
        obtain ⟨z0, z1, z2⟩ := HK0.out.store (fAt fr l (j + 1))
        exact ⟨z0, z1, z2⟩
      · have hold := HJ.out j hj
        obtain ⟨z0, z1, z2⟩ := hold.other (q := off + k * 3) (.int .i64 (fAt fr l (k + 1)).id) (.string (fAt fr l (k + 1)).s) (.int .i64 (fAt fr l (k + 1)).since) (by omega)
        by_cases hjlt : j < k
        · rw [if_pos hjlt] at z0 z1 z2
          rw [if_pos (by omega)]
          exact ⟨z0, z1, z2⟩
        · rw [if_neg hjlt] at z0 z1 z2
          rw [if_neg (by omega)]
          exact ⟨z0, z1, z2⟩
    · have hkl : k = l.length := by omega
      subst hkl
      obtain ⟨y0, y1, y2⟩ := HJ.out l.length (by omega)
      have hcapI : (l.length : Int) ≤ cap := by omega
      have f0 : wr.cell? ⟨w.heap.size + 1, 0, none⟩ = some (.int .i64 fr.id) := (World.cell?_of_block (a := ⟨w.heap.size + 1, 0, none⟩) (honly.block (w.heap.size + 1) (by omega) (by omega))).trans e0
      have f1 : wr.cell? ⟨w.heap.size + 1, 1, none⟩ = some (.string fr.s) := (World.cell?_of_block (a := ⟨w.heap.size + 1, 1, none⟩) (honly.block (w.heap.size + 1) (by omega) (by omega))).trans e1
      have f2 : wr.cell? ⟨w.heap.size + 1, 2, none⟩ = some (.int .i64 fr.since) := (World.cell?_of_block (a := ⟨w.heap.size + 1, 2, none⟩) (honly.block (w.heap.size + 1) (by omega) (by omega))).trans e2
      have hne1 : ¬ b = w.heap.size + 1 := by omega
      have hne2 : ¬ w.heap.size + 1 = b := by omega
      have hne3 : ¬ g = w.heap.size + 1 := by omega
      have hne4 : ¬ w.heap.size + 1 = g := by omega
      have hne5 : ¬ g = b := hg
      have hne6 : ¬ b = g := fun e => hg e.symm
      have hne7 : ¬ w.heap.size = b := by omega
      have hne8 : ¬ w.heap.size = g := by omega
      obtain ⟨s0, s1, s2⟩ := r0
      have g0 : wr.cell? ⟨w.heap.size, 0, none⟩ = some (.int .i64 (0 : Nat)) := (World.cell?_of_block (a := ⟨w.heap.size, 0, none⟩) (honly.block w.heap.size (by omega) (by omega))).trans s0
      have g1 : wr.cell? ⟨w.heap.size, 1, none⟩ = some (.string ⟨#[]⟩) := (World.cell?_of_block (a := ⟨w.heap.size, 1, none⟩) (honly.block w.heap.size (by omega) (by omega))).trans s1
      have g2 : wr.cell? ⟨w.heap.size, 2, none⟩ = some (.int .i64 (0 : Nat)) := (World.cell?_of_block (a := ⟨w.heap.size, 2, none⟩) (honly.block w.heap.size (by omega) (by omega))).trans s2
      have gz : ∀ i, wr.frozen? ⟨w.heap.size, i, none⟩ = false := fun i => (World.frozen?_of_block (a := ⟨w.heap.size, i, none⟩) (honly.block w.heap.size (by omega) (by omega))).trans (rz i)
      have hsz := honly.size
      go_wp2_with fail
      go_region
      go_wp2_with fail
      refine bodyPost_ret (v := .tuple #[.agg #[.int .i64 fr.id, .string fr.s, .int .i64 fr.since], .bool true]) (by simp [results, Try.results69, go_sem, g0, g1, g2]) rfl ⟨rfl, .slice (some ⟨g, off, none⟩) l.length cap, ?_, ?_, ?_⟩
      · have hF : ∀ (W1 : World) (x0 x1 x2 x3 x4 : Value), ((((((W1.setCell ⟨b, o, none⟩ x0).setCell ⟨b, o + 1, none⟩ x1).setCell ⟨w.heap.size, 0, none⟩ x2).setCell ⟨w.heap.size, 1, none⟩ x3).setCell ⟨w.heap.size, 2, none⟩ x4).drew).heap[g]? = W1.heap[g]? := by
          intro W1 x0 x1 x2 x3 x4
          show (((((W1.setCell ⟨b, o, none⟩ x0).setCell ⟨b, o + 1, none⟩ x1).setCell ⟨w.heap.size, 0, none⟩ x2).setCell ⟨w.heap.size, 1, none⟩ x3).setCell ⟨w.heap.size, 2, none⟩ x4).heap[g]? = _
          rw [Below.heap_setCell _ _ _ _ (by show g ≠ w.heap.size; omega), Below.heap_setCell _ _ _ _ (by show g ≠ w.heap.size; omega), Below.heap_setCell _ _ _ _ (by show g ≠ w.heap.size; omega), Below.heap_setCell _ _ _ _ hg, Below.heap_setCell _ _ _ _ hg]
        refine ⟨by rw [fmCells_length], .inr ⟨g, off, cap, rfl, hog, by simp [World.setCell]; omega, by omega, HCM.out, ?_, ?_, ?_⟩⟩
        · intro j u hu
          refine (World.cell?_of_block (a := ⟨g, _, none⟩) (hF _ _ _ _ _ _)).trans ?_
          refine fmCells_of (fun q hq => ?_) j u hu
          have hold := HJ.out q (by omega)
          rw [if_pos hq, fAt_succ fr l q hq] at hold
          exact hold.other _ _ _ (by omega)
        · intro j hj
          obtain ⟨u, hu⟩ := (((hrm2.set ⟨g, off + l.length * 3, none⟩ (.int .i64 0)).set ⟨g, off + l.length * 3 + 1, none⟩ (.string ⟨#[]⟩)).set ⟨g, off + l.length * 3 + 2, none⟩ (.int .i64 0)).is j hj
          exact ⟨u, (World.cell?_of_block (a := ⟨g, _, none⟩) (hF _ _ _ _ _ _)).trans hu, trivial⟩
        · intro j
          exact (World.frozen?_of_block (a := ⟨g, j, none⟩) (hF _ _ _ _ _ _)).trans ((frozen_store3 _ _ _ _ _ _ _).trans (hfr j))
      · have hwr : wr.rowIs b ty N f := hrow.row.of_block ((honly.block b (by omega) (by omega)).trans (hbW.block b hblt))
        have h1 := ((hwr.setOther (a := ⟨g, off + l.length * 3, none⟩) hne6 (.int .i64 0)).setOther (a := ⟨g, off + l.length * 3 + 1, none⟩) hne6 (.string ⟨#[]⟩)).setOther (a := ⟨g, off + l.length * 3 + 2, none⟩) hne6 (.int .i64 0)
        have h2 := (h1.set o (.slice (some ⟨g, off, none⟩) l.length cap)).set (o + 1) (.int .i64 ((nb : Int) - fr.s.size))
        have h3 := ((h2.setOther (a := ⟨w.heap.size, 0, none⟩) (by show b ≠ w.heap.size; omega) (.int .i64 fr.id)).setOther (a := ⟨w.heap.size, 1, none⟩) (by show b ≠ w.heap.size; omega) (.string fr.s)).setOther (a := ⟨w.heap.size, 2, none⟩) (by show b ≠ w.heap.size; omega) (.int .i64 fr.since)
        refine ⟨hrow.tag, h3.drew.congr (fun i _ => ?_)⟩
        rw [show ((nb : Int) - fr.s.size) = ((nb - fr.s.size : Nat) : Int) by omega]
      · exact (((((((((Fr.below hbW).only honly (.inr hog)).setCell g _ _ (.inr hog)).setCell g _ _ (.inr hog)).setCell g _ _ (.inr hog)).setCell b _ _ (.inl hrow.tag)).setCell b _ _ (.inl hrow.tag)).setNew w.heap.size _ _ (Nat.le_refl _)).setNew w.heap.size _ _ (Nat.le_refl _)).setNew w.heap.size _ _ (Nat.le_refl _) |>.drew

end Go.Proofs.Ytnkicbopebgppaa

namespace Go.Proofs.Ytnkicbopebgppaa
open Go.RowKit Fl

/-- A bucket. -/
structure Bk where
  q : List Fm
  timed : Bool
  above : Nat
  dropping : Bool
  next : Nat
  count : Nat
  last : Nat

def qBytes : List Fm → Nat
  | [] => 0
  | f :: l => f.s.size + qBytes l

theorem qBytes_snoc (l : List Fm) (f : Fm) : qBytes (l ++ [f]) = qBytes l + f.s.size := by
  induction l with
  | nil => simp [qBytes]
  | cons g l ih => simp only [List.cons_append, qBytes, ih]; omega

/-- A bucket's eight cells. -/
def bkF (v : Value) (k : Bk) : Nat → Value
  | 0 => v
  | 1 => .int .i64 (qBytes k.q : Nat)
  | 2 => .bool k.timed
  | 3 => .int .i64 k.above
  | 4 => .bool k.dropping
  | 5 => .int .i64 k.next
  | 6 => .int .i64 k.count
  | _ => .int .i64 k.last

/-- Where a bucket lies: at offset o of the buckets' row. -/
structure BkAt (own : Nat → Nat) (w : World) (tB tq b ty N o : Nat) (f : Nat → Value) (v : Value) (k : Bk) : Prop where
  row : Row own w tB b ty N f
  inn : o + 8 ≤ N
  cells : ∀ i, i < 8 → f (o + i) = bkF v k i
  sl : Sl anyG own w tq 3 v k.q.length (fmCells k.q)
  ne : tq ≠ tB
  len : k.q.length ≤ 100
  bytes : ∀ x ∈ k.q, x.s.size ≤ 200

theorem qBytes_le (l : List Fm) (h : ∀ x ∈ l, x.s.size ≤ 200) : qBytes l ≤ 200 * l.length := by
  induction l with
  | nil => simp [qBytes]
  | cons f l ih =>
    have h1 := h f (by simp)
    have h2 := ih (fun x hx => h x (by simp [hx]))
    simp only [qBytes, List.length_cons]; omega

theorem BkAt.fr {own own' : Nat → Nat} {w w' : World} {tB tq b ty N o : Nat} {f : Nat → Value} {v : Value} {k : Bk} {T : Nat → Prop} (h : BkAt own w tB tq b ty N o f v k) (hf : Fr T own own' w w') (h1 : ¬ T tB) (h2 : ¬ T tq) :
    BkAt own' w' tB tq b ty N o f v k := ⟨h.row.fr hf h1, h.inn, h.cells, h.sl.fr hf h2, h.ne, h.len, h.bytes⟩

theorem BkAt.below {own : Nat → Nat} {w w' : World} {tB tq b ty N o : Nat} {f : Nat → Value} {v : Value} {k : Bk} (h : BkAt own w tB tq b ty N o f v k) (hf : Below w.heap.size w w') : BkAt own w' tB tq b ty N o f v k :=
  h.fr (T := fun _ => False) (Fr.below hf) id id

theorem BkAt.cell {own : Nat → Nat} {w : World} {tB tq b ty N o : Nat} {f : Nat → Value} {v : Value} {k : Bk} (h : BkAt own w tB tq b ty N o f v k) (i : Nat) (hi : i < 8) : w.cell? ⟨b, o + i, none⟩ = some (bkF v k i) := by
  rw [h.row.row.cell (by have := h.inn; omega), h.cells i hi]

/-- A store into one of a bucket's own cells (not its queue's). -/
theorem BkAt.set {own : Nat → Nat} {w : World} {tB tq b ty N o : Nat} {f : Nat → Value} {v : Value} {k k' : Bk} (h : BkAt own w tB tq b ty N o f v k) (i : Nat) (u : Value) (hq : k'.q = k.q) (hi : i < 8) (hu : ∀ j, j < 8 → bkF v k' j = if j = i then u else bkF v k j) :
    ∃ f', BkAt own (w.setCell ⟨b, o + i, none⟩ u) tB tq b ty N o f' v k' ∧ (∀ j, j < o ∨ o + 8 ≤ j → f' j = f j) := by
  refine ⟨fun j => if j = o + i then u else f j, ⟨h.row.set _ _, h.inn, ?_, ?_, h.ne, by rw [hq]; exact h.len, by rw [hq]; exact h.bytes⟩, ?_⟩
  · intro j hj
    rw [hu j hj]
    by_cases e : j = i
    · subst e; simp
    · rw [if_neg e, if_neg (by omega)]; exact h.cells j hj
  · rw [hq]
    exact h.sl.fr (T := fun t => t = tB) ((Fr.refl _ own w).setCell b _ _ h.row.tag) h.ne
  · intro j hj
    show (if j = o + i then u else f j) = f j
    rw [if_neg (by omega)]

set_option maxHeartbeats 400000 in
theorem qframes_any (own : Nat → Nat) (tB tq b ty N o : Nat) (f : Nat → Value) (v : Value) (k : Bk) (w : World) (h : BkAt own w tB tq b ty N o f v k) :
    Calls Try.prog 81 #[.pointer (some ⟨b, o, none⟩)] w fun e w' => e = .returned (.int .i64 (k.q.length : Nat)) ∧ w' = w := by
  have c0 : w.cell? ⟨b, o, none⟩ = some v := h.cell 0 (by omega)
  obtain ⟨_, h2⟩ := h.sl
  rcases h2 with ⟨rfl, hn⟩ | ⟨g, off, cap, rfl, _⟩
  · rw [hn]
    clear h hn
    go_enter Try.func81, Try.ntmps81
    go_wp2
    go_ret
    exact ⟨rfl, rfl⟩
  · clear h
    go_enter Try.func81, Try.ntmps81
    go_wp2
    go_ret
    exact ⟨rfl, rfl⟩

set_option maxHeartbeats 400000 in
theorem qbytes_any (own : Nat → Nat) (tB tq b ty N o : Nat) (f : Nat → Value) (v : Value) (k : Bk) (w : World) (h : BkAt own w tB tq b ty N o f v k) :
    Calls Try.prog 82 #[.pointer (some ⟨b, o, none⟩)] w fun e w' => e = .returned (.int .i64 (qBytes k.q : Nat)) ∧ w' = w := by
  have c0 : w.cell? ⟨b, o + 1, none⟩ = some (.int .i64 (qBytes k.q : Nat)) := h.cell 1 (by omega)
  clear h
  go_enter Try.func82, Try.ntmps82
  go_wp2
  go_ret
  exact ⟨rfl, rfl⟩

set_option maxHeartbeats 400000 in
theorem bframes_any (own : Nat → Nat) (tB tq b ty N o : Nat) (f : Nat → Value) (v : Value) (k : Bk) (w : World) (h : BkAt own w tB tq b ty N o f v k) :
    Calls Try.prog 67 #[.pointer (some ⟨b, o, none⟩)] w fun e w' => e = .returned (.int .i64 (k.q.length : Nat)) ∧ w' = w := by
  go_enter Try.func67, Try.ntmps67
  go_wp2_with fail
  refine (qframes_any own tB tq b ty N o f v k _ h).mono ?_
  rintro e w1 ⟨rfl, rfl⟩
  go_wp2_with fail
  go_ret
  exact ⟨rfl, rfl⟩

set_option maxHeartbeats 400000 in
theorem bbytes_any (own : Nat → Nat) (tB tq b ty N o : Nat) (f : Nat → Value) (v : Value) (k : Bk) (w : World) (h : BkAt own w tB tq b ty N o f v k) :
    Calls Try.prog 68 #[.pointer (some ⟨b, o, none⟩)] w fun e w' => e = .returned (.int .i64 (qBytes k.q : Nat)) ∧ w' = w := by
  go_enter Try.func68, Try.ntmps68
  go_wp2_with fail
  refine (qbytes_any own tB tq b ty N o f v k _ h).mono ?_
  rintro e w1 ⟨rfl, rfl⟩
  go_wp2_with fail
  go_ret
  exact ⟨rfl, rfl⟩

/-- A frame's cells as one value. -/
def Fm.val (f : Fm) : Value := .agg #[.int .i64 f.id, .string f.s, .int .i64 f.since]
def noFm : Fm := ⟨0, ⟨#[]⟩, 0⟩

/-- What the first frame's leaving comes to: the frame, whether there is one, the bucket. -/
def Bk.drop (k : Bk) : Fm × Bool × Bk :=
  match k.q with
  | [] => (noFm, false, k)
  | f :: l => (f, true, { k with q := l })

set_option maxRecDepth 100000 in
set_option maxHeartbeats 800000 in
theorem qleave_no (own : Nat → Nat) (tB tq b ty N o : Nat) (f : Nat → Value) (v : Value) (k : Bk) (w : World) (h : BkAt own w tB tq b ty N o f v k) (hq : k.q = []) :
    Calls Try.prog 69 #[.pointer (some ⟨b, o, none⟩)] w fun e w' => e = .returned (.tuple #[noFm.val, .bool false]) ∧ Below w.heap.size w w' := by
  have c0 : w.cell? ⟨b, o, none⟩ = some v := h.cell 0 (by omega)
  have hblt := h.row.row.lt
  obtain ⟨_, h2⟩ := h.sl
  rw [hq] at h2
  have hne1 : ¬ w.heap.size = b := by omega
  rcases h2 with ⟨rfl, hn⟩ | ⟨g, off, cap, rfl, _⟩
  all_goals
    clear h
    try clear hn
    go_enter Try.func69, Try.ntmps69
    go_wp2
    refine bodyPost_ret (v := .tuple #[.agg #[.int .i64 0, .string ⟨#[]⟩, .int .i64 0], .bool false]) (by simp [results, Try.results69, go_sem]) rfl ⟨rfl, ?_⟩
    exact (Below.refl _ _).alloc (Nat.le_refl _) _

theorem BkAt.left {own : Nat → Nat} {w w' : World} {tB tq b ty N o : Nat} {f : Nat → Value} {v v' : Value} {k : Bk} {fr : Fm} {l : List Fm} (h : BkAt own w tB tq b ty N o f v k) (hq : k.q = fr :: l)
    (hs : Sl anyG own w' tq 3 v' l.length (fmCells l)) (hr : Row own w' tB b ty N (fun j => if j = o + 1 then .int .i64 (qBytes k.q - fr.s.size : Nat) else if j = o then v' else f j)) :
    BkAt own w' tB tq b ty N o (fun j => if j = o + 1 then .int .i64 (qBytes k.q - fr.s.size : Nat) else if j = o then v' else f j) v' { k with q := l } := by
  have hl := h.len
  rw [hq] at hl
  refine ⟨hr, h.inn, ?_, hs, h.ne, by simp at hl ⊢; omega, fun x hx => h.bytes x (by rw [hq]; simp [hx])⟩
  intro i hi
  have hb : qBytes k.q - fr.s.size = qBytes l := by rw [hq]; simp [qBytes]
  have := h.cells i hi
  match i, hi, this with
  | 0, _, _ => simp [bkF]
  | 1, _, _ => simp [bkF, hb]
  | 2, _, this => simpa [bkF] using this
  | 3, _, this => simpa [bkF] using this
  | 4, _, this => simpa [bkF] using this
  | 5, _, this => simpa [bkF] using this
  | 6, _, this => simpa [bkF] using this
  | 7, _, this => simpa [bkF] using this

/-- The queue's Leave, of a bucket. -/
theorem qleave_any (own : Nat → Nat) (tB tq b ty N o : Nat) (f : Nat → Value) (v : Value) (k : Bk) (w : World) (h : BkAt own w tB tq b ty N o f v k) :
    Calls Try.prog 69 #[.pointer (some ⟨b, o, none⟩)] w fun e w' => e = .returned (.tuple #[k.drop.1.val, .bool k.drop.2.1]) ∧
      ∃ f' v', BkAt own w' tB tq b ty N o f' v' k.drop.2.2 ∧ (∀ j, j < o ∨ o + 8 ≤ j → f' j = f j) ∧ Fr (fun t => t = tB ∨ t = tq) own own w w' := by
  rcases hq : k.q with _ | ⟨fr, l⟩
  · refine (qleave_no own tB tq b ty N o f v k w h hq).mono ?_
    rintro e w' ⟨rfl, hb⟩
    have hd : k.drop = (noFm, false, k) := by unfold Bk.drop; rw [hq]
    rw [hd]
    exact ⟨rfl, f, v, h.below hb, fun _ _ => rfl, Fr.below hb⟩
  · have hlen := h.len
    have hby := h.bytes
    rw [hq] at hlen hby
    have hqb := qBytes_le _ hby
    have hinn := h.inn
    have hsl := h.sl
    rw [hq] at hsl
    have hd : k.drop = (fr, true, { k with q := l }) := by unfold Bk.drop; rw [hq]
    have c1 := h.cells 1 (by omega)
    have c0 := h.cells 0 (by omega)
    refine (qleave_yes own tB tq b o N ty f v fr l (qBytes k.q) w h.row (by omega) c0 c1 hsl h.ne (by simp at hlen; omega) (by rw [hq]; simp [qBytes]) (by rw [hq]; simp at hlen hqb; omega)).mono ?_
    rintro e w' ⟨rfl, v', hs, hr, hf⟩
    rw [hd]
    refine ⟨rfl, _, v', h.left hq hs hr, fun j hj => ?_, hf⟩
    show (if j = o + 1 then _ else if j = o then _ else f j) = f j
    rw [if_neg (by omega), if_neg (by omega)]

end Go.Proofs.Ytnkicbopebgppaa

namespace Go.Proofs.Ytnkicbopebgppaa
open Go.RowKit Fl

/-- A configuration. -/
structure Cf where
  buckets : Nat
  quantum : Nat
  packets : Nat
  memory : Nat
  length : Nat
  target : Nat
  interval : Nat
  tau : Nat
  ecn : Bool
  key : ByteArray

def Cf.val (c : Cf) : Value := .agg #[.int .i64 c.buckets, .int .i64 c.quantum, .int .i64 c.packets, .int .i64 c.memory, .int .i64 c.length, .int .i64 c.target, .int .i64 c.interval, .int .i64 c.tau, .bool c.ecn, .string c.key]

structure Cf.ok (c : Cf) : Prop where
  b1 : 1 ≤ c.buckets
  b2 : c.buckets ≤ 16
  q1 : 1 ≤ c.quantum
  q2 : c.quantum ≤ 1000
  p1 : 1 ≤ c.packets
  p2 : c.packets ≤ 64
  l1 : 20 ≤ c.length
  l2 : c.length ≤ 200
  m1 : c.length + 64 ≤ c.memory
  m2 : c.memory ≤ 65536
  t1 : 1 ≤ c.target
  t2 : c.target ≤ c.interval
  i2 : c.interval ≤ 1099511627776
  u1 : 1 ≤ c.tau
  u2 : c.tau ≤ 1048576
  k16 : c.key.size = 16

/-- The first frame is taken: the frame, whether there is one, whether it is late, the bucket. -/
def Bk.take (k : Bk) (c : Cf) (now : Nat) : Fm × Bool × Bool × Bk :=
  match k.drop with
  | (f, found, k1) =>
    if found = false ∨ now < f.since + c.target ∨ qBytes k1.q ≤ c.length then (f, found, false, { k1 with timed := false })
    else if k1.timed = false then (f, true, false, { k1 with timed := true, above := now + c.interval })
    else (f, true, decide (k1.above ≤ now), k1)

/-- Behind every block that is there the tags are nought. -/
def Junk (own : Nat → Nat) (w : World) : Prop := ∀ g, w.heap.size ≤ g → own g = 0

theorem Bk.drop_facts (k : Bk) (now : Nat) (hsi : ∀ x ∈ k.q, x.since ≤ now) : k.drop.1.since ≤ now ∧ k.drop.2.2.timed = k.timed ∧ k.drop.2.2.above = k.above ∧ k.drop.2.2.dropping = k.dropping ∧ k.drop.2.2.next = k.next ∧ k.drop.2.2.count = k.count ∧ k.drop.2.2.last = k.last ∧ (∀ x ∈ k.drop.2.2.q, x ∈ k.q) := by
  unfold Bk.drop
  rcases hq : k.q with _ | ⟨fr, l⟩
  · exact ⟨Nat.zero_le _, rfl, rfl, rfl, rfl, rfl, rfl, fun x hx => by rw [hq] at hx; exact hx⟩
  · exact ⟨hsi fr (by rw [hq]; simp), rfl, rfl, rfl, rfl, rfl, rfl, fun x hx => by simp at hx; simp [hx]⟩

theorem Fr.cell0 {T : Nat → Prop} {own own' : Nat → Nat} {w w' : World} (h : Fr T own own' w w') {b : Nat} (hb : b < w.heap.size) (h0 : own b = 0) (ht : ¬ T 0) : (∀ o, w'.cell? ⟨b, o, none⟩ = w.cell? ⟨b, o, none⟩) ∧ ∀ o, w'.frozen? ⟨b, o, none⟩ = w.frozen? ⟨b, o, none⟩ :=
  ⟨fun o => h.cell o hb (by rw [h0]; exact ht), fun o => h.frozen o hb (by rw [h0]; exact ht)⟩

theorem Bk.take_a (k : Bk) (c : Cf) (now : Nat) (h : k.drop.2.1 = false ∨ now < k.drop.1.since + c.target ∨ qBytes k.drop.2.2.q ≤ c.length) : k.take c now = (k.drop.1, k.drop.2.1, false, { k.drop.2.2 with timed := false }) := by
  unfold Bk.take
  rcases hd : k.drop with ⟨f, fd, k1⟩
  rw [hd] at h
  simp only at h ⊢
  rw [if_pos h]

theorem Bk.take_b (k : Bk) (c : Cf) (now : Nat) (h : ¬ (k.drop.2.1 = false ∨ now < k.drop.1.since + c.target ∨ qBytes k.drop.2.2.q ≤ c.length)) (h2 : k.drop.2.2.timed = false) : k.take c now = (k.drop.1, true, false, { k.drop.2.2 with timed := true, above := now + c.interval }) := by
  unfold Bk.take
  rcases hd : k.drop with ⟨f, fd, k1⟩
  rw [hd] at h h2
  simp only at h h2 ⊢
  rw [if_neg h, if_pos h2]

theorem Bk.take_c (k : Bk) (c : Cf) (now : Nat) (h : ¬ (k.drop.2.1 = false ∨ now < k.drop.1.since + c.target ∨ qBytes k.drop.2.2.q ≤ c.length)) (h2 : ¬ k.drop.2.2.timed = false) : k.take c now = (k.drop.1, true, decide (k.drop.2.2.above ≤ now), k.drop.2.2) := by
  unfold Bk.take
  rcases hd : k.drop with ⟨f, fd, k1⟩
  rw [hd] at h h2
  simp only at h h2 ⊢
  rw [if_neg h, if_neg h2]

/-- What becomes of a bucket, and of all else. -/
structure BkPost (own own' : Nat → Nat) (w w' : World) (tB tq b ty N o : Nat) (f : Nat → Value) (k' : Bk) : Prop where
  ex : ∃ f' v', BkAt own' w' tB tq b ty N o f' v' k' ∧ (∀ j, j < o ∨ o + 8 ≤ j → f' j = f j) ∧ Fr (fun t => t = tB ∨ t = tq) own own' w w'

set_option maxRecDepth 100000 in
set_option maxHeartbeats 3200000 in
theorem take_bk (own : Nat → Nat) (tB tq b ty N o : Nat) (f : Nat → Value) (v : Value) (k : Bk) (c : Cf) (now : Nat) (w : World) (R : Fm × Bool × Bool × Bk) (hR : Bx (k.take c now = R)) (h : BkAt own w tB tq b ty N o f v k) (hj : Junk own w) (htB : tB ≠ 0) (htq : tq ≠ 0)
    (hc : c.ok) (hnow : now ≤ 4611686018427387904) (_hab : k.above ≤ 9000000000000000000) (hsi : ∀ x ∈ k.q, x.since ≤ now) :
    Calls Try.prog 78 #[.pointer (some ⟨b, o, none⟩), c.val, .int .i64 now] w fun e w' => e = .returned (.tuple #[R.1.val, .bool R.2.1, .bool R.2.2.1]) ∧ BkPost own own w w' tB tq b ty N o f R.2.2.2 := by
  have hblt := h.row.row.lt
  have hT0 : ¬ ((0 : Nat) = tB ∨ (0 : Nat) = tq) := by omega
  have i1 := hc.t1; have i2 := hc.t2; have i3 := hc.i2; have i4 := hc.l2
  obtain ⟨g1, g2, g3, g4, g5, g6, g7, g8⟩ := k.drop_facts now hsi
  have hRa := k.take_a c now
  have hRb := k.take_b c now
  have hRc := k.take_c c now
  rw [hR.out] at hRa hRb hRc
  have hleave := qleave_any own tB tq b ty N o f v k
  rcases hd : k.drop with ⟨fm, fd, k1⟩
  rw [hd] at g1 g2 g3 hRa hRb hRc hleave
  simp only at g1 g2 g3 hRa hRb hRc hleave
  have HL : Bx _ := ⟨hleave⟩
  have HRA : Bx _ := ⟨hRa⟩
  have HRB : Bx _ := ⟨hRb⟩
  have HRC : Bx _ := ⟨hRc⟩
  clear hleave hRa hRb hRc hR hd g2 g3 g4 g5 g6 g7 g8 hsi hc
  obtain ⟨cb, cq, cp, cm, cl, ct, ci, cu, ce, ck⟩ := c
  simp only [Cf.val] at *
  go_enter Try.func78, Try.ntmps78
  go_wp2_with fail
  refine (HL.out _ (h.below (below2' _ _ _))).mono ?_
  rintro e w1 ⟨rfl, f1, v1, h1, hof, hfr⟩
  have hsz := hfr.size
  simp at hsz
  obtain ⟨k0, kz0⟩ := Fr.cell0 hfr (b := w.heap.size) (by simp; omega) (hj _ (Nat.le_refl _)) hT0
  obtain ⟨k2, kz2⟩ := Fr.cell0 hfr (b := w.heap.size + 1) (by simp) (hj _ (by omega)) hT0
  have hz0 : w.heap.size < w1.heap.size := by omega
  have hz1 : w.heap.size + 1 < w1.heap.size := by omega
  have hz2 : b < w1.heap.size := by omega
  have hn0 : ¬ w.heap.size = b := by omega
  have hn1 : ¬ w.heap.size + 1 = b := by omega
  have hn2 : ¬ w1.heap.size = b := by omega
  have hqb := qBytes_le _ h1.bytes
  have hql := h1.len
  have hin := h1.inn
  have j2 : w1.cell? ⟨b, o + 2, none⟩ = some (.bool k1.timed) := h1.cell 2 (by omega)
  have j3 : w1.cell? ⟨b, o + 3, none⟩ = some (.int .i64 k1.above) := h1.cell 3 (by omega)
  have jz := h1.row.row.frozen
  have hbF : Below w1.heap.size w1 (w1.alloc (Obj.cells #[.int .i64 fm.id, .string fm.s, .int .i64 fm.since] 98)) := (Below.refl _ _).alloc (Nat.le_refl _) _
  have hfw : Fr (fun t => t = tB ∨ t = tq) own own w w1 := (Fr.below (below2' _ _ _)).trans hfr
  have hh1 : Bx (BkAt own w1 tB tq b ty N o f1 v1 k1) := ⟨h1⟩
  have hr0 : Bx (own (w.heap.size + 1) = 0) := ⟨hj _ (by omega)⟩
  clear h1 hfr HL h hj
  simp only [Fm.val]
  go_wp2_with fail
  refine (qbytes_any own tB tq b ty N o f1 v1 k1 _ (hh1.out.below hbF)).mono ?_
  rintro e w2 ⟨rfl, rfl⟩
  by_cases hA : fd = false ∨ now < fm.since + ct ∨ qBytes k1.q ≤ cl
  · have HR : Bx (R = (fm, fd, false, { k1 with timed := false })) := ⟨HRA.out hA⟩
    clear HRA HRB HRC
    cases fd
    · skip
      go_wp2_with fail
      obtain ⟨f2, h2, ho2⟩ := hh1.out.set (k' := { k1 with timed := false }) 2 (.bool false) rfl (by omega) (fun j hj => by match j, hj with | 0, _ => rfl | 1, _ => rfl | 2, _ => rfl | 3, _ => rfl | 4, _ => rfl | 5, _ => rfl | 6, _ => rfl | 7, _ => rfl)
      refine bodyPost_ret (v := .tuple #[.agg #[.int .i64 fm.id, .string fm.s, .int .i64 fm.since], .bool false, .bool false]) (by simp [results, Try.results78, go_sem, k2, hz1]) rfl ⟨by rw [HR.out]; rfl, ⟨f2, v1, ?_, fun j hj => (ho2 j hj).trans <| hof j hj, ?_⟩⟩
      · rw [HR.out]
        exact h2.fr ((((((Fr.refl (fun t => t = 0) own _).setCell (w.heap.size + 1) _ _ hr0.out).setCell (w.heap.size + 1) _ _ hr0.out).setCell (w.heap.size + 1) _ _ hr0.out).alloc _)) htB htq
      · exact ((((hfw.setCell b _ _ (.inl hh1.out.row.tag)).setNew (w.heap.size + 1) _ _ (by omega)).setNew (w.heap.size + 1) _ _ (by omega)).setNew (w.heap.size + 1) _ _ (by omega)).alloc _
    · by_cases hA1 : now < fm.since + ct
      · skip
        go_wp2_with fail
        obtain ⟨f2, h2, ho2⟩ := hh1.out.set (k' := { k1 with timed := false }) 2 (.bool false) rfl (by omega) (fun j hj => by match j, hj with | 0, _ => rfl | 1, _ => rfl | 2, _ => rfl | 3, _ => rfl | 4, _ => rfl | 5, _ => rfl | 6, _ => rfl | 7, _ => rfl)
        refine bodyPost_ret (v := .tuple #[.agg #[.int .i64 fm.id, .string fm.s, .int .i64 fm.since], .bool true, .bool false]) (by simp [results, Try.results78, go_sem, k2, hz1]) rfl ⟨by rw [HR.out]; rfl, ⟨f2, v1, ?_, fun j hj => (ho2 j hj).trans <| hof j hj, ?_⟩⟩
        · rw [HR.out]
          exact h2.fr ((((((Fr.refl (fun t => t = 0) own _).setCell (w.heap.size + 1) _ _ hr0.out).setCell (w.heap.size + 1) _ _ hr0.out).setCell (w.heap.size + 1) _ _ hr0.out).alloc _)) htB htq
        · exact ((((hfw.setCell b _ _ (.inl hh1.out.row.tag)).setNew (w.heap.size + 1) _ _ (by omega)).setNew (w.heap.size + 1) _ _ (by omega)).setNew (w.heap.size + 1) _ _ (by omega)).alloc _
      · have hA2 : qBytes k1.q ≤ cl := by
          rcases hA with e | e | e
          · cases e
          · omega
          · exact e
        clear hA
        go_wp2_with fail
        obtain ⟨f2, h2, ho2⟩ := hh1.out.set (k' := { k1 with timed := false }) 2 (.bool false) rfl (by omega) (fun j hj => by match j, hj with | 0, _ => rfl | 1, _ => rfl | 2, _ => rfl | 3, _ => rfl | 4, _ => rfl | 5, _ => rfl | 6, _ => rfl | 7, _ => rfl)
        refine bodyPost_ret (v := .tuple #[.agg #[.int .i64 fm.id, .string fm.s, .int .i64 fm.since], .bool true, .bool false]) (by simp [results, Try.results78, go_sem, k2, hz1]) rfl ⟨by rw [HR.out]; rfl, ⟨f2, v1, ?_, fun j hj => (ho2 j hj).trans <| hof j hj, ?_⟩⟩
        · rw [HR.out]
          exact h2.fr ((((((Fr.refl (fun t => t = 0) own _).setCell (w.heap.size + 1) _ _ hr0.out).setCell (w.heap.size + 1) _ _ hr0.out).setCell (w.heap.size + 1) _ _ hr0.out).alloc _)) htB htq
        · exact ((((hfw.setCell b _ _ (.inl hh1.out.row.tag)).setNew (w.heap.size + 1) _ _ (by omega)).setNew (w.heap.size + 1) _ _ (by omega)).setNew (w.heap.size + 1) _ _ (by omega)).alloc _
  · have hfd : fd = true := by
      cases fd
      · exact absurd (.inl rfl) hA
      · rfl
    subst hfd
    have hA1 : ¬ now < fm.since + ct := fun e => hA (.inr (.inl e))
    have hA2 : ¬ qBytes k1.q ≤ cl := fun e => hA (.inr (.inr e))
    cases htm : k1.timed
    · have HR : Bx (R = (fm, true, false, { k1 with timed := true, above := now + ci })) := ⟨HRB.out hA htm⟩
      clear HRA HRB HRC hA
      rw [htm] at j2
      · skip
        go_wp2_with fail
        obtain ⟨f2, h2, ho2⟩ := hh1.out.set (k' := { k1 with timed := true }) 2 (.bool true) rfl (by omega) (fun j hj => by match j, hj with | 0, _ => rfl | 1, _ => rfl | 2, _ => rfl | 3, _ => rfl | 4, _ => rfl | 5, _ => rfl | 6, _ => rfl | 7, _ => rfl)
        obtain ⟨f3, h3, ho3⟩ := h2.set (k' := { k1 with timed := true, above := now + ci }) 3 (.int .i64 ((now : Int) + ci)) rfl (by omega) (fun j hj => by match j, hj with | 0, _ => rfl | 1, _ => rfl | 2, _ => rfl | 3, _ => rfl | 4, _ => rfl | 5, _ => rfl | 6, _ => rfl | 7, _ => rfl)
        refine bodyPost_ret (v := .tuple #[.agg #[.int .i64 fm.id, .string fm.s, .int .i64 fm.since], .bool true, .bool false]) (by simp [results, Try.results78, go_sem, k2, hz1]) rfl ⟨by rw [HR.out]; rfl, ⟨f3, v1, ?_, fun j hj => (ho3 j hj).trans <| (ho2 j hj).trans <| hof j hj, ?_⟩⟩
        · rw [HR.out]
          exact h3.fr ((((((Fr.refl (fun t => t = 0) own _).setCell (w.heap.size + 1) _ _ hr0.out).setCell (w.heap.size + 1) _ _ hr0.out).setCell (w.heap.size + 1) _ _ hr0.out).alloc _)) htB htq
        · exact (((((hfw.setCell b _ _ (.inl hh1.out.row.tag)).setCell b _ _ (.inl hh1.out.row.tag)).setNew (w.heap.size + 1) _ _ (by omega)).setNew (w.heap.size + 1) _ _ (by omega)).setNew (w.heap.size + 1) _ _ (by omega)).alloc _
    · have HR : Bx (R = (fm, true, decide (k1.above ≤ now), k1)) := ⟨HRC.out hA (by rw [htm]; decide)⟩
      clear HRA HRB HRC hA
      rw [htm] at j2
      · go_wp2_with fail
        go_region
        go_wp2_with fail
        refine bodyPost_ret (v := .tuple #[.agg #[.int .i64 fm.id, .string fm.s, .int .i64 fm.since], .bool true, .bool (decide (k1.above ≤ now))]) (by simp [results, Try.results78, go_sem, k2, hz1]) rfl ⟨by rw [HR.out]; rfl, ⟨f1, v1, ?_, fun j hj => hof j hj, ?_⟩⟩
        · rw [HR.out]
          exact hh1.out.fr ((((((Fr.refl (fun t => t = 0) own _).setCell (w.heap.size + 1) _ _ hr0.out).setCell (w.heap.size + 1) _ _ hr0.out).setCell (w.heap.size + 1) _ _ hr0.out).alloc _).drew) htB htq
        · exact ((((hfw.setNew (w.heap.size + 1) _ _ (by omega)).setNew (w.heap.size + 1) _ _ (by omega)).setNew (w.heap.size + 1) _ _ (by omega)).alloc _).drew

end Go.Proofs.Ytnkicbopebgppaa

namespace Go.Proofs.Ytnkicbopebgppaa
open Go.RowKit Fl

/-- What a bucket gives up, as one value. -/
def gvVal (dv : Value) (f : Fm) (found marked : Bool) : Value := .agg #[dv, .int .i64 f.id, .string f.s, .int .i64 f.since, .bool found, .bool marked]

/-- Is the frame marked rather than dropped? -/
def marksB (c : Cf) (f : Fm) : Bool := c.ecn && canB f.s

def Fm.mark (f : Fm) : Fm := { f with s := markOf f.s }

theorem below_set6 {B b : Nat} {u w : World} (h : Below B u w) (hB : B ≤ b) (x0 x1 x2 x3 x4 x5 : Value) :
    Below B u ((((((w.setCell ⟨b, 0, none⟩ x0).setCell ⟨b, 1, none⟩ x1).setCell ⟨b, 2, none⟩ x2).setCell ⟨b, 3, none⟩ x3).setCell ⟨b, 4, none⟩ x4).setCell ⟨b, 5, none⟩ x5) :=
  (((((h.setCell hB _).setCell hB _).setCell hB _).setCell hB _).setCell hB _).setCell hB _

theorem below3 (w : World) (o1 o2 o3 : Obj) : Below w.heap.size w (((w.alloc o1).alloc o2).alloc o3) := (((Below.refl _ _).alloc (Nat.le_refl _) _).alloc (by simp) _).alloc (by simp; omega) _

set_option maxRecDepth 100000 in
set_option maxHeartbeats 800000 in
theorem markIfCan_any (dx : Option Addr) (dn dc : Nat) (f g : Fm) (found marked m : Bool) (c : Cf) (w : World) (hs : f.s.size ≤ 1000) (hm : Bx (marksB c f = m)) (hg : Bx (g = if m then f.mark else f)) :
    Calls Try.prog 89 #[gvVal (.slice dx dn dc) f found marked, c.val] w fun e w' => e = .returned (gvVal (.slice dx dn dc) g found (marked || m)) ∧ Below w.heap.size w w' := by
  obtain ⟨cb, cq, cp, cm, cl, ct, ci, cu, ce, ck⟩ := c
  simp only [Cf.val, gvVal, marksB] at *
  have hm' := hm.out
  cases ce
  · obtain rfl : m = false := by rw [← hm']; rfl
    obtain rfl : g = f := hg.out
    simp only [Bool.or_false]
    clear hm hm' hg
    go_enter Try.func89, Try.ntmps89
    go_wp2_with fail
    refine bodyPost_ret (v := .agg #[.slice dx dn dc, .int .i64 g.id, .string g.s, .int .i64 g.since, .bool found, .bool marked]) (by simp [results, Try.results89, go_sem]) rfl ⟨rfl, ?_⟩
    exact ((((Below.refl _ _).alloc (Nat.le_refl _) _).alloc (by simp) _).alloc (by simp; omega) _)
  · have hcan : canB f.s = m := by rw [← hm']; rfl
    cases m
    · obtain rfl : g = f := hg.out
      simp only [Bool.or_false]
      clear hm hm' hg
      go_enter Try.func89, Try.ntmps89
      go_wp2_with fail
      refine (set_any g.s ⟨#[]⟩ false _ hs ⟨hcan⟩ ⟨rfl⟩).mono ?_
      rintro e w1 ⟨rfl, hb1⟩
      obtain ⟨hc1, hf1⟩ := bcell hb1
      have hz := hb1.size
      simp at hz
      have hz0 : w.heap.size < w1.heap.size := by omega
      have hz1 : w.heap.size + 1 < w1.heap.size := by omega
      have hz2 : w.heap.size + 1 + 1 < w1.heap.size := by omega
      go_wp2_with fail
      refine bodyPost_ret (v := .agg #[.slice dx dn dc, .int .i64 g.id, .string g.s, .int .i64 g.since, .bool found, .bool marked]) (by simp [results, Try.results89, go_sem, hc1]) rfl ⟨rfl, ?_⟩
      exact below_set6 ((below3 w _ _ _).trans (hb1.mono (by simp; omega))) (by omega) _ _ _ _ _ _
    · obtain rfl : g = f.mark := hg.out
      simp only [Bool.or_true]
      obtain ⟨t, HT⟩ : ∃ t, Bx (t = markOf f.s) := ⟨_, ⟨rfl⟩⟩
      have hfm : f.mark = { f with s := t } := by rw [HT.out]; rfl
      rw [hfm]
      clear hm hm' hg hfm
      go_enter Try.func89, Try.ntmps89
      go_wp2_with fail
      refine (set_any f.s t true _ hs ⟨hcan⟩ ⟨HT.out⟩).mono ?_
      rintro e w1 ⟨rfl, hb1⟩
      obtain ⟨hc1, hf1⟩ := bcell hb1
      have hz := hb1.size
      simp at hz
      have hz0 : w.heap.size < w1.heap.size := by omega
      have hz1 : w.heap.size + 1 < w1.heap.size := by omega
      have hz2 : w.heap.size + 1 + 1 < w1.heap.size := by omega
      have q2 : w1.cell? ⟨w.heap.size, 2, none⟩ = some (.string f.s) := (hc1 _ _ (by simp; omega)).trans (by go_simp)
      have q5 : w1.cell? ⟨w.heap.size, 5, none⟩ = some (.bool marked) := (hc1 _ _ (by simp; omega)).trans (by go_simp)
      have q0 : w1.cell? ⟨w.heap.size, 0, none⟩ = some (.slice dx dn dc) := (hc1 _ _ (by simp; omega)).trans (by go_simp)
      have q1 : w1.cell? ⟨w.heap.size, 1, none⟩ = some (.int .i64 f.id) := (hc1 _ _ (by simp; omega)).trans (by go_simp)
      have q3 : w1.cell? ⟨w.heap.size, 3, none⟩ = some (.int .i64 f.since) := (hc1 _ _ (by simp; omega)).trans (by go_simp)
      have q4 : w1.cell? ⟨w.heap.size, 4, none⟩ = some (.bool found) := (hc1 _ _ (by simp; omega)).trans (by go_simp)
      go_wp2_with fail
      refine bodyPost_ret (v := .agg #[.slice dx dn dc, .int .i64 f.id, .string t, .int .i64 f.since, .bool found, .bool true]) (by simp [results, Try.results89, go_sem, hc1]) rfl ⟨rfl, ?_⟩
      exact below_set6 (((((below3 w _ _ _).trans (hb1.mono (by simp; omega))).setCell (Nat.le_refl _) _)).setCell (Nat.le_refl _) _) (by omega) _ _ _ _ _ _

end Go.Proofs.Ytnkicbopebgppaa

namespace Go.Proofs.Ytnkicbopebgppaa
open Go.RowKit Fl

/-- The count with which a bucket begins to drop. -/
def Bk.fresh (k : Bk) (c : Cf) (now : Nat) : Nat := if k.count ≤ k.last + 1 ∨ k.next + 16 * c.interval ≤ now then 1 else k.count - k.last

/-- The bucket is dropping from now on. -/
def Bk.starts (k : Bk) (c : Cf) (now : Nat) : Bk := { k with dropping := true, count := k.fresh c now, last := k.fresh c now, next := now + stepOf c.interval (k.fresh c now) }

/-- What is told of a bucket that gave up a frame: the list of those that were dropped lies under a tag of its own. -/
structure GvPost (own own' : Nat → Nat) (w w' : World) (tB tq td b ty N o : Nat) (f : Nat → Value) (k' : Bk) (dv : Value) (d : List Fm) : Prop where
  ex : ∃ f' v', BkAt own' w' tB tq b ty N o f' v' k' ∧ (∀ j, j < o ∨ o + 8 ≤ j → f' j = f j) ∧ Fr (fun t => t = tB ∨ t = tq ∨ t = td) own own' w w' ∧ Sl anyG own' w' td 3 dv d.length (fmCells d)

theorem Bk.fresh_bd (k : Bk) (c : Cf) (now : Nat) : 1 ≤ k.fresh c now ∧ k.fresh c now ≤ k.count + 1 := by
  unfold Bk.fresh; split <;> omega

/-- Three stores into a bucket that begins to drop. -/
theorem BkAt.started {own : Nat → Nat} {w : World} {tB tq b ty N o : Nat} {f : Nat → Value} {v : Value} {k : Bk} (h : BkAt own w tB tq b ty N o f v k) (cnt : Nat) :
    ∃ f', BkAt own ((((w.setCell ⟨b, o + 4, none⟩ (.bool true)).setCell ⟨b, o + 6, none⟩ (.int .i64 cnt)).setCell ⟨b, o + 7, none⟩ (.int .i64 cnt))) tB tq b ty N o f' v { k with dropping := true, count := cnt, last := cnt } ∧ (∀ j, j < o ∨ o + 8 ≤ j → f' j = f j) := by
  obtain ⟨f1, h1, o1⟩ := h.set (k' := { k with dropping := true }) 4 (.bool true) rfl (by omega) (fun j hj => by match j, hj with | 0, _ => rfl | 1, _ => rfl | 2, _ => rfl | 3, _ => rfl | 4, _ => rfl | 5, _ => rfl | 6, _ => rfl | 7, _ => rfl)
  obtain ⟨f2, h2, o2⟩ := h1.set (k' := { k with dropping := true, count := cnt }) 6 (.int .i64 cnt) rfl (by omega) (fun j hj => by match j, hj with | 0, _ => rfl | 1, _ => rfl | 2, _ => rfl | 3, _ => rfl | 4, _ => rfl | 5, _ => rfl | 6, _ => rfl | 7, _ => rfl)
  obtain ⟨f3, h3, o3⟩ := h2.set (k' := { k with dropping := true, count := cnt, last := cnt }) 7 (.int .i64 cnt) rfl (by omega) (fun j hj => by match j, hj with | 0, _ => rfl | 1, _ => rfl | 2, _ => rfl | 3, _ => rfl | 4, _ => rfl | 5, _ => rfl | 6, _ => rfl | 7, _ => rfl)
  exact ⟨f3, h3, fun j hj => (o3 j hj).trans ((o2 j hj).trans (o1 j hj))⟩

set_option maxRecDepth 100000 in
set_option maxHeartbeats 6400000 in
theorem begin_mark (own : Nat → Nat) (tB tq td b ty N o : Nat) (f : Nat → Value) (v : Value) (k : Bk) (fr g : Fm) (c : Cf) (now : Nat) (w : World) (h : BkAt own w tB tq b ty N o f v k) (hj : Junk own w) (htB : tB ≠ 0) (htq : tq ≠ 0)
    (hc : c.ok) (hnow : now ≤ 4611686018427387904) (hnx : k.next ≤ 4700000000000000000) (hcn : k.count ≤ 4000000000) (hla : k.last ≤ k.count) (hs : fr.s.size ≤ 200) (hm : marksB c fr = true) (hg : Bx (g = fr.mark)) :
    Calls Try.prog 80 #[.pointer (some ⟨b, o, none⟩), gvVal (.slice none 0 0) fr true false, c.val, .int .i64 now] w fun e w' => e = .returned (gvVal (.slice none 0 0) g true true) ∧
      GvPost own own w w' tB tq td b ty N o f (k.starts c now) (.slice none 0 0) [] := by
  have hblt := h.row.row.lt
  have hT0 : ¬ ((0 : Nat) = tB ∨ (0 : Nat) = tq) := by omega
  have i1 := hc.t1; have i2 := hc.t2; have i3 := hc.i2
  obtain ⟨cnt, Hcnt⟩ : ∃ cnt, Bx (k.fresh c now = cnt) := ⟨_, ⟨rfl⟩⟩
  obtain ⟨b1, b2⟩ := k.fresh_bd c now
  rw [Hcnt.out] at b1 b2
  have hstep := stepOf_le c.interval cnt b1
  have hmk := markIfCan_any none 0 0 fr g true false true c
  have hof := fun wx => of_any c.interval cnt wx (by omega) i3 b1 (by omega)
  obtain ⟨sp, Hsp⟩ : ∃ sp, Bx (stepOf c.interval cnt = sp) := ⟨_, ⟨rfl⟩⟩
  rw [Hsp.out] at hstep hof
  have HS : Bx (k.starts c now = { k with dropping := true, count := cnt, last := cnt, next := now + sp }) := ⟨by unfold Bk.starts; rw [Hcnt.out, Hsp.out]⟩
  have hfr := Hcnt.out
  unfold Bk.fresh at hfr
  have HFR : Bx _ := ⟨hfr⟩
  have HMK : Bx _ := ⟨hmk⟩
  have HOF : Bx _ := ⟨hof⟩
  clear hmk hof hfr Hcnt
  obtain ⟨cb, cq, cp, cm, cl, ct, ci, cu, ce, ck⟩ := c
  simp only [Cf.val, gvVal] at *
  have j4 : w.cell? ⟨b, o + 4, none⟩ = some (.bool k.dropping) := h.cell 4 (by omega)
  have j5 : w.cell? ⟨b, o + 5, none⟩ = some (.int .i64 k.next) := h.cell 5 (by omega)
  have j6 : w.cell? ⟨b, o + 6, none⟩ = some (.int .i64 k.count) := h.cell 6 (by omega)
  have j7 : w.cell? ⟨b, o + 7, none⟩ = some (.int .i64 k.last) := h.cell 7 (by omega)
  have jz := h.row.row.frozen
  have hH : Bx (BkAt own w tB tq b ty N o f v k) := ⟨h⟩
  clear h
  go_enter Try.func80, Try.ntmps80
  go_wp2_with fail
  refine (HMK.out _ (by omega) ⟨hm⟩ ⟨hg.out⟩).mono ?_
  rintro e w1 ⟨rfl, hb1⟩
  have hz := hb1.size
  simp at hz
  have hz0 : w.heap.size < w1.heap.size := by omega
  have hz1 : w.heap.size + 1 < w1.heap.size := by omega
  have hz2 : w.heap.size + 1 + 1 < w1.heap.size := by omega
  have hz3 : b < w1.heap.size := by omega
  have hn0 : ¬ w.heap.size = b := by omega
  have hn0' : ¬ b = w.heap.size := by omega
  have hW : ∀ bb oo, bb < w.heap.size + 3 → w1.cell? ⟨bb, oo, none⟩ = _ := fun bb oo hlt => hb1.cell (p := ⟨bb, oo, none⟩) (by simp; omega)
  have hZ : ∀ bb oo, bb < w.heap.size + 3 → w1.frozen? ⟨bb, oo, none⟩ = _ := fun bb oo hlt => hb1.frozen (p := ⟨bb, oo, none⟩) (by simp; omega)
  have hbw : Below w.heap.size w w1 := (below3 w _ _ _).trans (hb1.mono (by simp; omega))
  have q0 : w1.cell? ⟨w.heap.size, 0, none⟩ = some (.slice none 0 0) := (hW _ _ (by omega)).trans (by go_simp)
  have q1 : w1.cell? ⟨w.heap.size, 1, none⟩ = some (.int .i64 fr.id) := (hW _ _ (by omega)).trans (by go_simp)
  have q2 : w1.cell? ⟨w.heap.size, 2, none⟩ = some (.string fr.s) := (hW _ _ (by omega)).trans (by go_simp)
  have q3 : w1.cell? ⟨w.heap.size, 3, none⟩ = some (.int .i64 fr.since) := (hW _ _ (by omega)).trans (by go_simp)
  have q4 : w1.cell? ⟨w.heap.size, 4, none⟩ = some (.bool true) := (hW _ _ (by omega)).trans (by go_simp)
  have q5 : w1.cell? ⟨w.heap.size, 5, none⟩ = some (.bool false) := (hW _ _ (by omega)).trans (by go_simp)
  have qz : ∀ i, w1.frozen? ⟨w.heap.size, i, none⟩ = false := fun i => (hZ _ _ (by omega)).trans (by go_simp)
  have l4 : w1.cell? ⟨b, o + 4, none⟩ = some (.bool k.dropping) := (hbw.cell (p := ⟨b, _, none⟩) hblt).trans j4
  have l5 : w1.cell? ⟨b, o + 5, none⟩ = some (.int .i64 k.next) := (hbw.cell (p := ⟨b, _, none⟩) hblt).trans j5
  have l6 : w1.cell? ⟨b, o + 6, none⟩ = some (.int .i64 k.count) := (hbw.cell (p := ⟨b, _, none⟩) hblt).trans j6
  have l7 : w1.cell? ⟨b, o + 7, none⟩ = some (.int .i64 k.last) := (hbw.cell (p := ⟨b, _, none⟩) hblt).trans j7
  have lz : ∀ i, w1.frozen? ⟨b, i, none⟩ = false := fun i => (hbw.frozen (p := ⟨b, i, none⟩) hblt).trans (jz i)
  have p6 : w1.cell? ⟨w.heap.size + 1, 6, none⟩ = some (.int .i64 ci) := (hW _ _ (by omega)).trans (by go_simp)
  have r0 : w1.cell? ⟨w.heap.size + 1 + 1, 0, none⟩ = some (.slice none 0 0) := (hW _ _ (by omega)).trans (by go_simp)
  have r1 : w1.cell? ⟨w.heap.size + 1 + 1, 1, none⟩ = some (.int .i64 0) := (hW _ _ (by omega)).trans (by go_simp)
  have r2 : w1.cell? ⟨w.heap.size + 1 + 1, 2, none⟩ = some (.string ⟨#[]⟩) := (hW _ _ (by omega)).trans (by go_simp)
  have r3 : w1.cell? ⟨w.heap.size + 1 + 1, 3, none⟩ = some (.int .i64 0) := (hW _ _ (by omega)).trans (by go_simp)
  have r4 : w1.cell? ⟨w.heap.size + 1 + 1, 4, none⟩ = some (.bool false) := (hW _ _ (by omega)).trans (by go_simp)
  have r5 : w1.cell? ⟨w.heap.size + 1 + 1, 5, none⟩ = some (.bool false) := (hW _ _ (by omega)).trans (by go_simp)
  have rz : ∀ i, w1.frozen? ⟨w.heap.size + 1 + 1, i, none⟩ = false := fun i => (hZ _ _ (by omega)).trans (by go_simp)
  have hn1 : ¬ w.heap.size + 1 = b := by omega
  have hn2 : ¬ w.heap.size + 1 + 1 = b := by omega
  have hn2' : ¬ b = w.heap.size + 1 + 1 := by omega
  clear hW hZ j4 j5 j6 j7 jz
  obtain ⟨o0, Ho0⟩ : ∃ x, Bx (own w.heap.size = 0 ∧ own (w.heap.size + 1 + 1) = 0 ∧ x = 0) := ⟨0, ⟨hj _ (Nat.le_refl _), hj _ (by omega), rfl⟩⟩
  go_wp2_with fail
  obtain ⟨f2, h2, hof2⟩ := ((hH.out.below hbw).fr (((((((Fr.refl (fun t => t = 0) own w1).setCell w.heap.size 0 (.slice none 0 0) Ho0.out.1).setCell w.heap.size 1 (.int .i64 g.id) Ho0.out.1).setCell w.heap.size 2 (.string g.s) Ho0.out.1).setCell w.heap.size 3 (.int .i64 g.since) Ho0.out.1).setCell w.heap.size 4 (.bool true) Ho0.out.1).setCell w.heap.size 5 (.bool true) Ho0.out.1) htB htq).set (k' := { k with dropping := true }) 4 (.bool true) rfl (by omega) (fun j hj => by match j, hj with | 0, _ => rfl | 1, _ => rfl | 2, _ => rfl | 3, _ => rfl | 4, _ => rfl | 5, _ => rfl | 6, _ => rfl | 7, _ => rfl)
  have hfr2 : Fr (fun t => t = tB ∨ t = tq ∨ t = td) own own w _ := (((((((Fr.below hbw : Fr (fun t => t = tB ∨ t = tq ∨ t = td) own own w w1).setNew w.heap.size 0 (.slice none 0 0) (Nat.le_refl _)).setNew w.heap.size 1 (.int .i64 g.id) (Nat.le_refl _)).setNew w.heap.size 2 (.string g.s) (Nat.le_refl _)).setNew w.heap.size 3 (.int .i64 g.since) (Nat.le_refl _)).setNew w.heap.size 4 (.bool true) (Nat.le_refl _)).setNew w.heap.size 5 (.bool true) (Nat.le_refl _)).setCell b (o + 4) (.bool true) (.inl h2.row.tag)
  have hsz2 : w.heap.size + 3 ≤ ((((((((w1.setCell ⟨w.heap.size, 0, none⟩ (.slice none 0 0)).setCell ⟨w.heap.size, 1, none⟩ (.int .i64 g.id)).setCell ⟨w.heap.size, 2, none⟩ (.string g.s)).setCell ⟨w.heap.size, 3, none⟩ (.int .i64 g.since)).setCell ⟨w.heap.size, 4, none⟩ (.bool true)).setCell ⟨w.heap.size, 5, none⟩ (.bool true)).setCell ⟨b, o + 4, none⟩ (.bool true))).heap.size := by simp [World.setCell]; omega
  have s0 : ((((((((w1.setCell ⟨w.heap.size, 0, none⟩ (.slice none 0 0)).setCell ⟨w.heap.size, 1, none⟩ (.int .i64 g.id)).setCell ⟨w.heap.size, 2, none⟩ (.string g.s)).setCell ⟨w.heap.size, 3, none⟩ (.int .i64 g.since)).setCell ⟨w.heap.size, 4, none⟩ (.bool true)).setCell ⟨w.heap.size, 5, none⟩ (.bool true)).setCell ⟨b, o + 4, none⟩ (.bool true))).cell? ⟨w.heap.size, 0, none⟩ = some (.slice none 0 0) := by go_simp
  have s1 : ((((((((w1.setCell ⟨w.heap.size, 0, none⟩ (.slice none 0 0)).setCell ⟨w.heap.size, 1, none⟩ (.int .i64 g.id)).setCell ⟨w.heap.size, 2, none⟩ (.string g.s)).setCell ⟨w.heap.size, 3, none⟩ (.int .i64 g.since)).setCell ⟨w.heap.size, 4, none⟩ (.bool true)).setCell ⟨w.heap.size, 5, none⟩ (.bool true)).setCell ⟨b, o + 4, none⟩ (.bool true))).cell? ⟨w.heap.size, 1, none⟩ = some (.int .i64 g.id) := by go_simp
  have s2 : ((((((((w1.setCell ⟨w.heap.size, 0, none⟩ (.slice none 0 0)).setCell ⟨w.heap.size, 1, none⟩ (.int .i64 g.id)).setCell ⟨w.heap.size, 2, none⟩ (.string g.s)).setCell ⟨w.heap.size, 3, none⟩ (.int .i64 g.since)).setCell ⟨w.heap.size, 4, none⟩ (.bool true)).setCell ⟨w.heap.size, 5, none⟩ (.bool true)).setCell ⟨b, o + 4, none⟩ (.bool true))).cell? ⟨w.heap.size, 2, none⟩ = some (.string g.s) := by go_simp
  have s3 : ((((((((w1.setCell ⟨w.heap.size, 0, none⟩ (.slice none 0 0)).setCell ⟨w.heap.size, 1, none⟩ (.int .i64 g.id)).setCell ⟨w.heap.size, 2, none⟩ (.string g.s)).setCell ⟨w.heap.size, 3, none⟩ (.int .i64 g.since)).setCell ⟨w.heap.size, 4, none⟩ (.bool true)).setCell ⟨w.heap.size, 5, none⟩ (.bool true)).setCell ⟨b, o + 4, none⟩ (.bool true))).cell? ⟨w.heap.size, 3, none⟩ = some (.int .i64 g.since) := by go_simp
  have s4 : ((((((((w1.setCell ⟨w.heap.size, 0, none⟩ (.slice none 0 0)).setCell ⟨w.heap.size, 1, none⟩ (.int .i64 g.id)).setCell ⟨w.heap.size, 2, none⟩ (.string g.s)).setCell ⟨w.heap.size, 3, none⟩ (.int .i64 g.since)).setCell ⟨w.heap.size, 4, none⟩ (.bool true)).setCell ⟨w.heap.size, 5, none⟩ (.bool true)).setCell ⟨b, o + 4, none⟩ (.bool true))).cell? ⟨w.heap.size, 4, none⟩ = some (.bool true) := by go_simp
  have s5 : ((((((((w1.setCell ⟨w.heap.size, 0, none⟩ (.slice none 0 0)).setCell ⟨w.heap.size, 1, none⟩ (.int .i64 g.id)).setCell ⟨w.heap.size, 2, none⟩ (.string g.s)).setCell ⟨w.heap.size, 3, none⟩ (.int .i64 g.since)).setCell ⟨w.heap.size, 4, none⟩ (.bool true)).setCell ⟨w.heap.size, 5, none⟩ (.bool true)).setCell ⟨b, o + 4, none⟩ (.bool true))).cell? ⟨w.heap.size, 5, none⟩ = some (.bool true) := by go_simp
  have u0 : ((((((((w1.setCell ⟨w.heap.size, 0, none⟩ (.slice none 0 0)).setCell ⟨w.heap.size, 1, none⟩ (.int .i64 g.id)).setCell ⟨w.heap.size, 2, none⟩ (.string g.s)).setCell ⟨w.heap.size, 3, none⟩ (.int .i64 g.since)).setCell ⟨w.heap.size, 4, none⟩ (.bool true)).setCell ⟨w.heap.size, 5, none⟩ (.bool true)).setCell ⟨b, o + 4, none⟩ (.bool true))).cell? ⟨w.heap.size + 1 + 1, 0, none⟩ = some (.slice none 0 0) := by go_simp
  have u1 : ((((((((w1.setCell ⟨w.heap.size, 0, none⟩ (.slice none 0 0)).setCell ⟨w.heap.size, 1, none⟩ (.int .i64 g.id)).setCell ⟨w.heap.size, 2, none⟩ (.string g.s)).setCell ⟨w.heap.size, 3, none⟩ (.int .i64 g.since)).setCell ⟨w.heap.size, 4, none⟩ (.bool true)).setCell ⟨w.heap.size, 5, none⟩ (.bool true)).setCell ⟨b, o + 4, none⟩ (.bool true))).cell? ⟨w.heap.size + 1 + 1, 1, none⟩ = some (.int .i64 0) := by go_simp
  have u2 : ((((((((w1.setCell ⟨w.heap.size, 0, none⟩ (.slice none 0 0)).setCell ⟨w.heap.size, 1, none⟩ (.int .i64 g.id)).setCell ⟨w.heap.size, 2, none⟩ (.string g.s)).setCell ⟨w.heap.size, 3, none⟩ (.int .i64 g.since)).setCell ⟨w.heap.size, 4, none⟩ (.bool true)).setCell ⟨w.heap.size, 5, none⟩ (.bool true)).setCell ⟨b, o + 4, none⟩ (.bool true))).cell? ⟨w.heap.size + 1 + 1, 2, none⟩ = some (.string ⟨#[]⟩) := by go_simp
  have u3 : ((((((((w1.setCell ⟨w.heap.size, 0, none⟩ (.slice none 0 0)).setCell ⟨w.heap.size, 1, none⟩ (.int .i64 g.id)).setCell ⟨w.heap.size, 2, none⟩ (.string g.s)).setCell ⟨w.heap.size, 3, none⟩ (.int .i64 g.since)).setCell ⟨w.heap.size, 4, none⟩ (.bool true)).setCell ⟨w.heap.size, 5, none⟩ (.bool true)).setCell ⟨b, o + 4, none⟩ (.bool true))).cell? ⟨w.heap.size + 1 + 1, 3, none⟩ = some (.int .i64 0) := by go_simp
  have u4 : ((((((((w1.setCell ⟨w.heap.size, 0, none⟩ (.slice none 0 0)).setCell ⟨w.heap.size, 1, none⟩ (.int .i64 g.id)).setCell ⟨w.heap.size, 2, none⟩ (.string g.s)).setCell ⟨w.heap.size, 3, none⟩ (.int .i64 g.since)).setCell ⟨w.heap.size, 4, none⟩ (.bool true)).setCell ⟨w.heap.size, 5, none⟩ (.bool true)).setCell ⟨b, o + 4, none⟩ (.bool true))).cell? ⟨w.heap.size + 1 + 1, 4, none⟩ = some (.bool false) := by go_simp
  have u5 : ((((((((w1.setCell ⟨w.heap.size, 0, none⟩ (.slice none 0 0)).setCell ⟨w.heap.size, 1, none⟩ (.int .i64 g.id)).setCell ⟨w.heap.size, 2, none⟩ (.string g.s)).setCell ⟨w.heap.size, 3, none⟩ (.int .i64 g.since)).setCell ⟨w.heap.size, 4, none⟩ (.bool true)).setCell ⟨w.heap.size, 5, none⟩ (.bool true)).setCell ⟨b, o + 4, none⟩ (.bool true))).cell? ⟨w.heap.size + 1 + 1, 5, none⟩ = some (.bool false) := by go_simp
  have uz : ∀ i, ((((((((w1.setCell ⟨w.heap.size, 0, none⟩ (.slice none 0 0)).setCell ⟨w.heap.size, 1, none⟩ (.int .i64 g.id)).setCell ⟨w.heap.size, 2, none⟩ (.string g.s)).setCell ⟨w.heap.size, 3, none⟩ (.int .i64 g.since)).setCell ⟨w.heap.size, 4, none⟩ (.bool true)).setCell ⟨w.heap.size, 5, none⟩ (.bool true)).setCell ⟨b, o + 4, none⟩ (.bool true))).frozen? ⟨w.heap.size + 1 + 1, i, none⟩ = false := by intro i; go_simp
  have pz : ((((((((w1.setCell ⟨w.heap.size, 0, none⟩ (.slice none 0 0)).setCell ⟨w.heap.size, 1, none⟩ (.int .i64 g.id)).setCell ⟨w.heap.size, 2, none⟩ (.string g.s)).setCell ⟨w.heap.size, 3, none⟩ (.int .i64 g.since)).setCell ⟨w.heap.size, 4, none⟩ (.bool true)).setCell ⟨w.heap.size, 5, none⟩ (.bool true)).setCell ⟨b, o + 4, none⟩ (.bool true))).cell? ⟨w.heap.size + 1, 6, none⟩ = some (.int .i64 ci) := by go_simp
  generalize ((((((((w1.setCell ⟨w.heap.size, 0, none⟩ (.slice none 0 0)).setCell ⟨w.heap.size, 1, none⟩ (.int .i64 g.id)).setCell ⟨w.heap.size, 2, none⟩ (.string g.s)).setCell ⟨w.heap.size, 3, none⟩ (.int .i64 g.since)).setCell ⟨w.heap.size, 4, none⟩ (.bool true)).setCell ⟨w.heap.size, 5, none⟩ (.bool true)).setCell ⟨b, o + 4, none⟩ (.bool true))) = w2 at *
  clear q0 q1 q2 q3 q4 q5 qz l4 l5 l6 l7 lz p6 r0 r1 r2 r3 r4 r5 rz
  have m5 : w2.cell? ⟨b, o + 5, none⟩ = some (.int .i64 k.next) := h2.cell 5 (by omega)
  have m6 : w2.cell? ⟨b, o + 6, none⟩ = some (.int .i64 k.count) := h2.cell 6 (by omega)
  have m7 : w2.cell? ⟨b, o + 7, none⟩ = some (.int .i64 k.last) := h2.cell 7 (by omega)
  have mz := h2.row.row.frozen
  have hin := h2.inn
  have H2 : Bx (BkAt own w2 tB tq b ty N o f2 v { k with dropping := true }) := ⟨h2⟩
  have HF2 : Bx (Fr (fun t => t = tB ∨ t = tq ∨ t = td) own own w w2) := ⟨hfr2⟩
  clear h2 hfr2
  go_region
  by_cases hA1 : k.count ≤ k.last + 1
  · have hcnt : cnt = 1 := by rw [← HFR.out, if_pos (.inl hA1)]
    subst hcnt
    have d1 : (k.count : Int) - k.last ≤ 1 := by omega
    go_wp2_with fail
    go_quiet (fail)
    go_wp2_with fail
    refine (HOF.out _).mono ?_
    rintro e w3 ⟨rfl, hb3⟩
    have hW0 : Below w2.heap.size w2 (w2.drewN (1 + nq)) := (Below.refl _ _).drewN _
    obtain ⟨f3, h3, hof3⟩ := (H2.out.below hW0).set (k' := { k with dropping := true, count := 1 }) 6 (.int .i64 (1 : Nat)) rfl (by omega) (fun j hj => by match j, hj with | 0, _ => rfl | 1, _ => rfl | 2, _ => rfl | 3, _ => rfl | 4, _ => rfl | 5, _ => rfl | 6, _ => rfl | 7, _ => rfl)
    obtain ⟨f4, h4, hof4⟩ := h3.set (k' := { k with dropping := true, count := 1, last := 1 }) 7 (.int .i64 (1 : Nat)) rfl (by omega) (fun j hj => by match j, hj with | 0, _ => rfl | 1, _ => rfl | 2, _ => rfl | 3, _ => rfl | 4, _ => rfl | 5, _ => rfl | 6, _ => rfl | 7, _ => rfl)
    have h5 := h4.below hb3
    have v5 : w3.cell? ⟨b, o + 5, none⟩ = some (.int .i64 k.next) := h5.cell 5 (by omega)
    have vz := h5.row.row.frozen
    have x0 : w3.cell? ⟨w.heap.size, 0, none⟩ = some (.slice none 0 0) := (hb3.cell (p := ⟨w.heap.size, 0, none⟩) (by simp [World.setCell]; omega)).trans (by go_simp)
    have x1 : w3.cell? ⟨w.heap.size, 1, none⟩ = some (.int .i64 g.id) := (hb3.cell (p := ⟨w.heap.size, 1, none⟩) (by simp [World.setCell]; omega)).trans (by go_simp)
    have x2 : w3.cell? ⟨w.heap.size, 2, none⟩ = some (.string g.s) := (hb3.cell (p := ⟨w.heap.size, 2, none⟩) (by simp [World.setCell]; omega)).trans (by go_simp)
    have x3 : w3.cell? ⟨w.heap.size, 3, none⟩ = some (.int .i64 g.since) := (hb3.cell (p := ⟨w.heap.size, 3, none⟩) (by simp [World.setCell]; omega)).trans (by go_simp)
    have x4 : w3.cell? ⟨w.heap.size, 4, none⟩ = some (.bool true) := (hb3.cell (p := ⟨w.heap.size, 4, none⟩) (by simp [World.setCell]; omega)).trans (by go_simp)
    have x5 : w3.cell? ⟨w.heap.size, 5, none⟩ = some (.bool true) := (hb3.cell (p := ⟨w.heap.size, 5, none⟩) (by simp [World.setCell]; omega)).trans (by go_simp)
    have y0 : w3.cell? ⟨w.heap.size + 1 + 1, 0, none⟩ = some (.slice none 0 0) := (hb3.cell (p := ⟨w.heap.size + 1 + 1, 0, none⟩) (by simp [World.setCell]; omega)).trans (by go_simp)
    have y1 : w3.cell? ⟨w.heap.size + 1 + 1, 1, none⟩ = some (.int .i64 0) := (hb3.cell (p := ⟨w.heap.size + 1 + 1, 1, none⟩) (by simp [World.setCell]; omega)).trans (by go_simp)
    have y2 : w3.cell? ⟨w.heap.size + 1 + 1, 2, none⟩ = some (.string ⟨#[]⟩) := (hb3.cell (p := ⟨w.heap.size + 1 + 1, 2, none⟩) (by simp [World.setCell]; omega)).trans (by go_simp)
    have y3 : w3.cell? ⟨w.heap.size + 1 + 1, 3, none⟩ = some (.int .i64 0) := (hb3.cell (p := ⟨w.heap.size + 1 + 1, 3, none⟩) (by simp [World.setCell]; omega)).trans (by go_simp)
    have y4 : w3.cell? ⟨w.heap.size + 1 + 1, 4, none⟩ = some (.bool false) := (hb3.cell (p := ⟨w.heap.size + 1 + 1, 4, none⟩) (by simp [World.setCell]; omega)).trans (by go_simp)
    have y5 : w3.cell? ⟨w.heap.size + 1 + 1, 5, none⟩ = some (.bool false) := (hb3.cell (p := ⟨w.heap.size + 1 + 1, 5, none⟩) (by simp [World.setCell]; omega)).trans (by go_simp)
    have yz : ∀ i, w3.frozen? ⟨w.heap.size + 1 + 1, i, none⟩ = false := fun i => (hb3.frozen (p := ⟨w.heap.size + 1 + 1, i, none⟩) (by simp [World.setCell]; omega)).trans (by go_simp)
    have hfr3 : Fr (fun t => t = tB ∨ t = tq ∨ t = td) own own w w3 := (((HF2.out.trans (Fr.below hW0)).setCell b (o + 6) (.int .i64 (1 : Nat)) (.inl H2.out.row.tag)).setCell b (o + 7) (.int .i64 (1 : Nat)) (.inl H2.out.row.tag)).trans (Fr.below hb3)
    have H5 : Bx (BkAt own w3 tB tq b ty N o f4 v { k with dropping := true, count := 1, last := 1 }) := ⟨h5⟩
    clear h3 h4 h5 hb3 s0 s1 s2 s3 s4 s5 u0 u1 u2 u3 u4 u5 uz m5 m6 m7 mz pz
    go_wp2_with fail
    obtain ⟨f6, h6, hof6⟩ := H5.out.set (k' := { k with dropping := true, count := 1, last := 1, next := now + sp }) 5 (.int .i64 ((now : Int) + sp)) rfl (by omega) (fun j hj => by match j, hj with | 0, _ => rfl | 1, _ => rfl | 2, _ => rfl | 3, _ => rfl | 4, _ => rfl | 5, _ => rfl | 6, _ => rfl | 7, _ => rfl)
    refine bodyPost_ret (v := .agg #[.slice none 0 0, .int .i64 g.id, .string g.s, .int .i64 g.since, .bool true, .bool true]) (by simp [results, Try.results80, go_sem, y0, y1, y2, y3, y4, y5]) rfl ⟨rfl, ⟨f6, v, ?_, fun j hj => (hof6 j hj).trans ((hof4 j hj).trans ((hof3 j hj).trans (hof2 j hj))), ?_, Sl.nil _ _ _ _ _⟩⟩
    · rw [HS.out]
      exact h6.fr (((((((Fr.refl (fun t => t = 0) own _).setCell (w.heap.size + 1 + 1) _ _ Ho0.out.2.1).setCell (w.heap.size + 1 + 1) _ _ Ho0.out.2.1).setCell (w.heap.size + 1 + 1) _ _ Ho0.out.2.1).setCell (w.heap.size + 1 + 1) _ _ Ho0.out.2.1).setCell (w.heap.size + 1 + 1) _ _ Ho0.out.2.1).setCell (w.heap.size + 1 + 1) _ _ Ho0.out.2.1) htB htq
    · exact ((((((hfr3.setCell b (o + 5) _ (.inl H5.out.row.tag)).setNew (w.heap.size + 1 + 1) _ _ (by omega)).setNew (w.heap.size + 1 + 1) _ _ (by omega)).setNew (w.heap.size + 1 + 1) _ _ (by omega)).setNew (w.heap.size + 1 + 1) _ _ (by omega)).setNew (w.heap.size + 1 + 1) _ _ (by omega)).setNew (w.heap.size + 1 + 1) _ _ (by omega)
  · by_cases hA2 : k.next + 16 * ci ≤ now
    · have hcnt : cnt = 1 := by rw [← HFR.out, if_pos (.inr hA2)]
      subst hcnt
      have d1 : decide ((k.count : Int) - k.last ≤ 1) = false := by simp; omega
      have d2 : 16 * (ci : Int) ≤ (now : Int) - k.next := by omega
      go_wp2_with fail
      go_quiet (fail)
      go_wp2_with fail
      refine (HOF.out _).mono ?_
      rintro e w3 ⟨rfl, hb3⟩
      have hW0 : Below w2.heap.size w2 (w2.drewN (1 + nq)) := (Below.refl _ _).drewN _
      obtain ⟨f3, h3, hof3⟩ := (H2.out.below hW0).set (k' := { k with dropping := true, count := 1 }) 6 (.int .i64 (1 : Nat)) rfl (by omega) (fun j hj => by match j, hj with | 0, _ => rfl | 1, _ => rfl | 2, _ => rfl | 3, _ => rfl | 4, _ => rfl | 5, _ => rfl | 6, _ => rfl | 7, _ => rfl)
      obtain ⟨f4, h4, hof4⟩ := h3.set (k' := { k with dropping := true, count := 1, last := 1 }) 7 (.int .i64 (1 : Nat)) rfl (by omega) (fun j hj => by match j, hj with | 0, _ => rfl | 1, _ => rfl | 2, _ => rfl | 3, _ => rfl | 4, _ => rfl | 5, _ => rfl | 6, _ => rfl | 7, _ => rfl)
      have h5 := h4.below hb3
      have v5 : w3.cell? ⟨b, o + 5, none⟩ = some (.int .i64 k.next) := h5.cell 5 (by omega)
      have vz := h5.row.row.frozen
      have x0 : w3.cell? ⟨w.heap.size, 0, none⟩ = some (.slice none 0 0) := (hb3.cell (p := ⟨w.heap.size, 0, none⟩) (by simp [World.setCell]; omega)).trans (by go_simp)
      have x1 : w3.cell? ⟨w.heap.size, 1, none⟩ = some (.int .i64 g.id) := (hb3.cell (p := ⟨w.heap.size, 1, none⟩) (by simp [World.setCell]; omega)).trans (by go_simp)
      have x2 : w3.cell? ⟨w.heap.size, 2, none⟩ = some (.string g.s) := (hb3.cell (p := ⟨w.heap.size, 2, none⟩) (by simp [World.setCell]; omega)).trans (by go_simp)
      have x3 : w3.cell? ⟨w.heap.size, 3, none⟩ = some (.int .i64 g.since) := (hb3.cell (p := ⟨w.heap.size, 3, none⟩) (by simp [World.setCell]; omega)).trans (by go_simp)
      have x4 : w3.cell? ⟨w.heap.size, 4, none⟩ = some (.bool true) := (hb3.cell (p := ⟨w.heap.size, 4, none⟩) (by simp [World.setCell]; omega)).trans (by go_simp)
      have x5 : w3.cell? ⟨w.heap.size, 5, none⟩ = some (.bool true) := (hb3.cell (p := ⟨w.heap.size, 5, none⟩) (by simp [World.setCell]; omega)).trans (by go_simp)
      have y0 : w3.cell? ⟨w.heap.size + 1 + 1, 0, none⟩ = some (.slice none 0 0) := (hb3.cell (p := ⟨w.heap.size + 1 + 1, 0, none⟩) (by simp [World.setCell]; omega)).trans (by go_simp)
      have y1 : w3.cell? ⟨w.heap.size + 1 + 1, 1, none⟩ = some (.int .i64 0) := (hb3.cell (p := ⟨w.heap.size + 1 + 1, 1, none⟩) (by simp [World.setCell]; omega)).trans (by go_simp)
      have y2 : w3.cell? ⟨w.heap.size + 1 + 1, 2, none⟩ = some (.string ⟨#[]⟩) := (hb3.cell (p := ⟨w.heap.size + 1 + 1, 2, none⟩) (by simp [World.setCell]; omega)).trans (by go_simp)
      have y3 : w3.cell? ⟨w.heap.size + 1 + 1, 3, none⟩ = some (.int .i64 0) := (hb3.cell (p := ⟨w.heap.size + 1 + 1, 3, none⟩) (by simp [World.setCell]; omega)).trans (by go_simp)
      have y4 : w3.cell? ⟨w.heap.size + 1 + 1, 4, none⟩ = some (.bool false) := (hb3.cell (p := ⟨w.heap.size + 1 + 1, 4, none⟩) (by simp [World.setCell]; omega)).trans (by go_simp)
      have y5 : w3.cell? ⟨w.heap.size + 1 + 1, 5, none⟩ = some (.bool false) := (hb3.cell (p := ⟨w.heap.size + 1 + 1, 5, none⟩) (by simp [World.setCell]; omega)).trans (by go_simp)
      have yz : ∀ i, w3.frozen? ⟨w.heap.size + 1 + 1, i, none⟩ = false := fun i => (hb3.frozen (p := ⟨w.heap.size + 1 + 1, i, none⟩) (by simp [World.setCell]; omega)).trans (by go_simp)
      have hfr3 : Fr (fun t => t = tB ∨ t = tq ∨ t = td) own own w w3 := (((HF2.out.trans (Fr.below hW0)).setCell b (o + 6) (.int .i64 (1 : Nat)) (.inl H2.out.row.tag)).setCell b (o + 7) (.int .i64 (1 : Nat)) (.inl H2.out.row.tag)).trans (Fr.below hb3)
      have H5 : Bx (BkAt own w3 tB tq b ty N o f4 v { k with dropping := true, count := 1, last := 1 }) := ⟨h5⟩
      clear h3 h4 h5 hb3 s0 s1 s2 s3 s4 s5 u0 u1 u2 u3 u4 u5 uz m5 m6 m7 mz pz
      go_wp2_with fail
      obtain ⟨f6, h6, hof6⟩ := H5.out.set (k' := { k with dropping := true, count := 1, last := 1, next := now + sp }) 5 (.int .i64 ((now : Int) + sp)) rfl (by omega) (fun j hj => by match j, hj with | 0, _ => rfl | 1, _ => rfl | 2, _ => rfl | 3, _ => rfl | 4, _ => rfl | 5, _ => rfl | 6, _ => rfl | 7, _ => rfl)
      refine bodyPost_ret (v := .agg #[.slice none 0 0, .int .i64 g.id, .string g.s, .int .i64 g.since, .bool true, .bool true]) (by simp [results, Try.results80, go_sem, y0, y1, y2, y3, y4, y5]) rfl ⟨rfl, ⟨f6, v, ?_, fun j hj => (hof6 j hj).trans ((hof4 j hj).trans ((hof3 j hj).trans (hof2 j hj))), ?_, Sl.nil _ _ _ _ _⟩⟩
      · rw [HS.out]
        exact h6.fr (((((((Fr.refl (fun t => t = 0) own _).setCell (w.heap.size + 1 + 1) _ _ Ho0.out.2.1).setCell (w.heap.size + 1 + 1) _ _ Ho0.out.2.1).setCell (w.heap.size + 1 + 1) _ _ Ho0.out.2.1).setCell (w.heap.size + 1 + 1) _ _ Ho0.out.2.1).setCell (w.heap.size + 1 + 1) _ _ Ho0.out.2.1).setCell (w.heap.size + 1 + 1) _ _ Ho0.out.2.1) htB htq
      · exact ((((((hfr3.setCell b (o + 5) _ (.inl H5.out.row.tag)).setNew (w.heap.size + 1 + 1) _ _ (by omega)).setNew (w.heap.size + 1 + 1) _ _ (by omega)).setNew (w.heap.size + 1 + 1) _ _ (by omega)).setNew (w.heap.size + 1 + 1) _ _ (by omega)).setNew (w.heap.size + 1 + 1) _ _ (by omega)).setNew (w.heap.size + 1 + 1) _ _ (by omega)
    · have hcnt : cnt = k.count - k.last := by rw [← HFR.out, if_neg (by omega)]
      have ecn : (k.count : Int) - k.last = cnt := by omega
      have d1 : decide ((cnt : Int) ≤ 1) = false := by simp; omega
      have d2 : decide (16 * (ci : Int) ≤ (now : Int) - k.next) = false := by simp; omega
      clear hcnt
      go_wp2_with fail
      go_quiet (fail)
      go_wp2_with fail
      refine (HOF.out _).mono ?_
      rintro e w3 ⟨rfl, hb3⟩
      have hW0 : Below w2.heap.size w2 (w2.drewN (1 + nq)) := (Below.refl _ _).drewN _
      obtain ⟨f3, h3, hof3⟩ := (H2.out.below hW0).set (k' := { k with dropping := true, count := cnt }) 6 (.int .i64 (cnt : Nat)) rfl (by omega) (fun j hj => by match j, hj with | 0, _ => rfl | 1, _ => rfl | 2, _ => rfl | 3, _ => rfl | 4, _ => rfl | 5, _ => rfl | 6, _ => rfl | 7, _ => rfl)
      obtain ⟨f4, h4, hof4⟩ := h3.set (k' := { k with dropping := true, count := cnt, last := cnt }) 7 (.int .i64 (cnt : Nat)) rfl (by omega) (fun j hj => by match j, hj with | 0, _ => rfl | 1, _ => rfl | 2, _ => rfl | 3, _ => rfl | 4, _ => rfl | 5, _ => rfl | 6, _ => rfl | 7, _ => rfl)
      have h5 := h4.below hb3
      have v5 : w3.cell? ⟨b, o + 5, none⟩ = some (.int .i64 k.next) := h5.cell 5 (by omega)
      have vz := h5.row.row.frozen
      have x0 : w3.cell? ⟨w.heap.size, 0, none⟩ = some (.slice none 0 0) := (hb3.cell (p := ⟨w.heap.size, 0, none⟩) (by simp [World.setCell]; omega)).trans (by go_simp)
      have x1 : w3.cell? ⟨w.heap.size, 1, none⟩ = some (.int .i64 g.id) := (hb3.cell (p := ⟨w.heap.size, 1, none⟩) (by simp [World.setCell]; omega)).trans (by go_simp)
      have x2 : w3.cell? ⟨w.heap.size, 2, none⟩ = some (.string g.s) := (hb3.cell (p := ⟨w.heap.size, 2, none⟩) (by simp [World.setCell]; omega)).trans (by go_simp)
      have x3 : w3.cell? ⟨w.heap.size, 3, none⟩ = some (.int .i64 g.since) := (hb3.cell (p := ⟨w.heap.size, 3, none⟩) (by simp [World.setCell]; omega)).trans (by go_simp)
      have x4 : w3.cell? ⟨w.heap.size, 4, none⟩ = some (.bool true) := (hb3.cell (p := ⟨w.heap.size, 4, none⟩) (by simp [World.setCell]; omega)).trans (by go_simp)
      have x5 : w3.cell? ⟨w.heap.size, 5, none⟩ = some (.bool true) := (hb3.cell (p := ⟨w.heap.size, 5, none⟩) (by simp [World.setCell]; omega)).trans (by go_simp)
      have y0 : w3.cell? ⟨w.heap.size + 1 + 1, 0, none⟩ = some (.slice none 0 0) := (hb3.cell (p := ⟨w.heap.size + 1 + 1, 0, none⟩) (by simp [World.setCell]; omega)).trans (by go_simp)
      have y1 : w3.cell? ⟨w.heap.size + 1 + 1, 1, none⟩ = some (.int .i64 0) := (hb3.cell (p := ⟨w.heap.size + 1 + 1, 1, none⟩) (by simp [World.setCell]; omega)).trans (by go_simp)
      have y2 : w3.cell? ⟨w.heap.size + 1 + 1, 2, none⟩ = some (.string ⟨#[]⟩) := (hb3.cell (p := ⟨w.heap.size + 1 + 1, 2, none⟩) (by simp [World.setCell]; omega)).trans (by go_simp)
      have y3 : w3.cell? ⟨w.heap.size + 1 + 1, 3, none⟩ = some (.int .i64 0) := (hb3.cell (p := ⟨w.heap.size + 1 + 1, 3, none⟩) (by simp [World.setCell]; omega)).trans (by go_simp)
      have y4 : w3.cell? ⟨w.heap.size + 1 + 1, 4, none⟩ = some (.bool false) := (hb3.cell (p := ⟨w.heap.size + 1 + 1, 4, none⟩) (by simp [World.setCell]; omega)).trans (by go_simp)
      have y5 : w3.cell? ⟨w.heap.size + 1 + 1, 5, none⟩ = some (.bool false) := (hb3.cell (p := ⟨w.heap.size + 1 + 1, 5, none⟩) (by simp [World.setCell]; omega)).trans (by go_simp)
      have yz : ∀ i, w3.frozen? ⟨w.heap.size + 1 + 1, i, none⟩ = false := fun i => (hb3.frozen (p := ⟨w.heap.size + 1 + 1, i, none⟩) (by simp [World.setCell]; omega)).trans (by go_simp)
      have hfr3 : Fr (fun t => t = tB ∨ t = tq ∨ t = td) own own w w3 := (((HF2.out.trans (Fr.below hW0)).setCell b (o + 6) (.int .i64 (cnt : Nat)) (.inl H2.out.row.tag)).setCell b (o + 7) (.int .i64 (cnt : Nat)) (.inl H2.out.row.tag)).trans (Fr.below hb3)
      have H5 : Bx (BkAt own w3 tB tq b ty N o f4 v { k with dropping := true, count := cnt, last := cnt }) := ⟨h5⟩
      clear h3 h4 h5 hb3 s0 s1 s2 s3 s4 s5 u0 u1 u2 u3 u4 u5 uz m5 m6 m7 mz pz
      go_wp2_with fail
      obtain ⟨f6, h6, hof6⟩ := H5.out.set (k' := { k with dropping := true, count := cnt, last := cnt, next := now + sp }) 5 (.int .i64 ((now : Int) + sp)) rfl (by omega) (fun j hj => by match j, hj with | 0, _ => rfl | 1, _ => rfl | 2, _ => rfl | 3, _ => rfl | 4, _ => rfl | 5, _ => rfl | 6, _ => rfl | 7, _ => rfl)
      refine bodyPost_ret (v := .agg #[.slice none 0 0, .int .i64 g.id, .string g.s, .int .i64 g.since, .bool true, .bool true]) (by simp [results, Try.results80, go_sem, y0, y1, y2, y3, y4, y5]) rfl ⟨rfl, ⟨f6, v, ?_, fun j hj => (hof6 j hj).trans ((hof4 j hj).trans ((hof3 j hj).trans (hof2 j hj))), ?_, Sl.nil _ _ _ _ _⟩⟩
      · rw [HS.out]
        exact h6.fr (((((((Fr.refl (fun t => t = 0) own _).setCell (w.heap.size + 1 + 1) _ _ Ho0.out.2.1).setCell (w.heap.size + 1 + 1) _ _ Ho0.out.2.1).setCell (w.heap.size + 1 + 1) _ _ Ho0.out.2.1).setCell (w.heap.size + 1 + 1) _ _ Ho0.out.2.1).setCell (w.heap.size + 1 + 1) _ _ Ho0.out.2.1).setCell (w.heap.size + 1 + 1) _ _ Ho0.out.2.1) htB htq
      · exact ((((((hfr3.setCell b (o + 5) _ (.inl H5.out.row.tag)).setNew (w.heap.size + 1 + 1) _ _ (by omega)).setNew (w.heap.size + 1 + 1) _ _ (by omega)).setNew (w.heap.size + 1 + 1) _ _ (by omega)).setNew (w.heap.size + 1 + 1) _ _ (by omega)).setNew (w.heap.size + 1 + 1) _ _ (by omega)).setNew (w.heap.size + 1 + 1) _ _ (by omega)

end Go.Proofs.Ytnkicbopebgppaa
