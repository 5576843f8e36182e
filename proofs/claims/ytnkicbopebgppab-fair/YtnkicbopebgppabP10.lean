import Derived.Test.YtnkicbopebgppabP09
import Derived.Laws.IdiomCopy
import Derived.BigRegion
import Derived.Deep.RegionHeld3
/-! Where the book lies. -/
namespace Go.Proofs.Ytnkicbopebgppab
open Go.RowKit Fl

def Fq.cells (f : Fq) : List Value := [.string f.s, .int .i64 f.at_, .bool f.able, .bool f.gone, .int .i64 f.first, .int .i64 f.soon]
def fqCells (l : List Fq) : List Value := l.flatMap Fq.cells

theorem fqCells_length (l : List Fq) : (fqCells l).length = l.length * 6 := by
  induction l with
  | nil => rfl
  | cons e l ih =>
    show (e.cells ++ fqCells l).length = _
    rw [List.length_append, ih, List.length_cons]
    show 6 + l.length * 6 = _
    omega
theorem fqCells_append (l m : List Fq) : fqCells (l ++ m) = fqCells l ++ fqCells m := by simp [fqCells]

theorem fqCells_get (l : List Fq) : ∀ (i : Nat) (j : Nat), i < l.length → j < 6 → (fqCells l)[i * 6 + j]? = (frAt l i).cells[j]? := by
  induction l with
  | nil => intro i j h; simp at h
  | cons e l ih =>
    intro i j h hj
    have e1 : fqCells (e :: l) = e.cells ++ fqCells l := rfl
    have e6 : e.cells.length = 6 := rfl
    match i, h with
    | 0, _ =>
      rw [e1, List.getElem?_append_left (by rw [e6]; omega), Nat.zero_mul, Nat.zero_add]
      rfl
    | i + 1, h =>
      have hi := ih i j (by simpa using h) hj
      rw [e1, List.getElem?_append_right (by rw [e6]; omega), e6, show (i + 1) * 6 + j - 6 = i * 6 + j by omega, hi]
      simp [frAt, List.getD]

theorem fqCells_set (l : List Fq) : ∀ (i : Nat) (j : Nat) (u : Value) (f' : Fq), i < l.length → j < 6 → f'.cells = (frAt l i).cells.set j u → fqCells (l.set i f') = (fqCells l).set (i * 6 + j) u := by
  induction l with
  | nil => intro i j u f' h; simp at h
  | cons e l ih =>
    intro i j u f' h hj hf
    have e1 : fqCells (e :: l) = e.cells ++ fqCells l := rfl
    have e6 : e.cells.length = 6 := rfl
    match i, h with
    | 0, _ =>
      rw [e1, List.set_append_left _ _ (by rw [e6]; omega), Nat.zero_mul, Nat.zero_add]
      show f'.cells ++ fqCells l = _
      rw [hf]; rfl
    | i + 1, h =>
      have hi := ih i j u f' (by simpa using h) hj (by rw [hf]; simp [frAt, List.getD])
      show e.cells ++ fqCells (l.set i f') = _
      rw [hi, e1, List.set_append_right _ _ (by rw [e6]; omega), e6, show (i + 1) * 6 + j - 6 = i * 6 + j by omega]

def prF (P : Nat → Pr) (j : Nat) : Value := if j % 3 = 0 then .bool (P (j / 3)).on else if j % 3 = 1 then .int .i64 (P (j / 3)).least else .int .i64 (P (j / 3)).most

/-- The cells of what is kept; x: where the port is; F, H: the lists; g: where the others lie. -/
def woF (hd : Nat) (c : Cf) (ax : Nat) (vF vH : Value) (g : Nat → Nat) (b : Bo) : Nat → Value
  | 0 => .int .i64 hd
  | 1 => .bool false
  | 2 => .bool false
  | 3 => .int .i64 c.buckets
  | 4 => .int .i64 c.quantum
  | 5 => .int .i64 c.packets
  | 6 => .int .i64 c.memory
  | 7 => .int .i64 c.length
  | 8 => .int .i64 c.target
  | 9 => .int .i64 c.interval
  | 10 => .int .i64 c.tau
  | 11 => .bool c.ecn
  | 12 => .string c.key
  | 13 => .pointer (some ⟨ax, 0, none⟩)
  | 14 => .int .i64 b.on.buckets
  | 15 => .int .i64 b.on.quantum
  | 16 => .int .i64 b.on.packets
  | 17 => .int .i64 b.on.memory
  | 18 => .int .i64 b.on.length
  | 19 => .int .i64 b.on.target
  | 20 => .int .i64 b.on.interval
  | 21 => .int .i64 b.on.tau
  | 22 => .bool b.on.ecn
  | 23 => .string b.on.key
  | 24 => vF
  | 25 => vH
  | 26 => .int .i64 b.till
  | 27 => .bool b.old
  | 28 => .int .i64 b.when_
  | 29 => .slice (some ⟨g 0, 0, none⟩) b.on.buckets b.on.buckets
  | 30 => .slice (some ⟨g 1, 0, none⟩) b.on.buckets b.on.buckets
  | 31 => .slice (some ⟨g 2, 0, none⟩) b.on.buckets b.on.buckets
  | 32 => .slice (some ⟨g 3, 0, none⟩) b.on.buckets b.on.buckets
  | 33 => .slice (some ⟨g 4, 0, none⟩) b.on.buckets b.on.buckets
  | 34 => .slice (some ⟨g 5, 0, none⟩) b.on.buckets b.on.buckets
  | 35 => .slice (some ⟨g 6, 0, none⟩) b.on.buckets b.on.buckets
  | _ => .slice (some ⟨g 7, 0, none⟩) (b.on.buckets * b.on.buckets) (b.on.buckets * b.on.buckets)

structure BoIs (own : Nat → Nat) (w : World) (a hd : Nat) (c : Cf) (ax : Nat) (vF vH : Value) (g : Nat → Nat) (b : Bo) : Prop where
  row : Row own w 2 a 38 37 (woF hd c ax vF vH g b)
  f : Sl anyC own w 10 6 vF b.f.length (fqCells b.f)
  here : Sl anyC own w (g 8) 1 vH b.here.length (natCells b.here)
  la : Row own w 12 (g 0) 3 b.on.buckets (fun i => .int .i64 (b.last i))
  se : Row own w 13 (g 1) 3 b.on.buckets (fun i => .int .i64 (b.sent i : Nat))
  tu : Row own w 14 (g 2) 3 b.on.buckets (fun i => .int .i64 (b.turn i : Nat))
  us : Row own w 15 (g 3) 4 b.on.buckets (fun i => .bool (b.used i))
  si : Row own w 16 (g 4) 3 b.on.buckets (fun i => .int .i64 (b.size i : Nat))
  le : Row own w 17 (g 5) 3 b.on.buckets (fun i => .int .i64 (b.left i : Nat))
  ov : Row own w 18 (g 6) 4 b.on.buckets (fun i => .bool (b.over i))
  pa : Row own w 19 (g 7) 84 (b.on.buckets * b.on.buckets * 3) (prF b.pairs)
  th : g 8 = 9 ∨ g 8 = 11

def BoAt (own : Nat → Nat) (w : World) (a hd : Nat) (c : Cf) (ax : Nat) (b : Bo) : Prop := ∃ vF vH g, BoIs own w a hd c ax vF vH g b

/-- The tags of the book. -/
def BTag : Nat → Prop := fun t => 2 ≤ t ∧ t < 20

section
variable {own own' : Nat → Nat} {w w' : World} {a hd : Nat} {c : Cf} {ax : Nat} {vF vH : Value} {g : Nat → Nat} {b : Bo}

theorem BoIs.fr {TT : Nat → Prop} (h : BoIs own w a hd c ax vF vH g b) (k : Fr TT own own' w w') (hT : ∀ t, BTag t → ¬ TT t) : BoIs own' w' a hd c ax vF vH g b :=
  ⟨h.row.fr k (hT _ ⟨by omega, by omega⟩), h.f.fr k (hT _ ⟨by omega, by omega⟩), h.here.fr k (hT _ (by rcases h.th with e | e <;> rw [e] <;> exact ⟨by omega, by omega⟩)), h.la.fr k (hT _ ⟨by omega, by omega⟩), h.se.fr k (hT _ ⟨by omega, by omega⟩), h.tu.fr k (hT _ ⟨by omega, by omega⟩), h.us.fr k (hT _ ⟨by omega, by omega⟩), h.si.fr k (hT _ ⟨by omega, by omega⟩), h.le.fr k (hT _ ⟨by omega, by omega⟩), h.ov.fr k (hT _ ⟨by omega, by omega⟩), h.pa.fr k (hT _ ⟨by omega, by omega⟩), h.th⟩
theorem BoIs.below (h : BoIs own w a hd c ax vF vH g b) (k : Below w.heap.size w w') : BoIs own w' a hd c ax vF vH g b := h.fr (TT := fun _ => False) (Fr.below k) (fun _ _ => id)
theorem BoAt.fr {TT : Nat → Prop} (h : BoAt own w a hd c ax b) (k : Fr TT own own' w w') (hT : ∀ t, BTag t → ¬ TT t) : BoAt own' w' a hd c ax b := by
  obtain ⟨vF, vH, g, h⟩ := h
  exact ⟨vF, vH, g, h.fr k hT⟩
theorem BoAt.below (h : BoAt own w a hd c ax b) (k : Below w.heap.size w w') : BoAt own w' a hd c ax b := h.fr (TT := fun _ => False) (Fr.below k) (fun _ _ => id)

theorem BoIs.cell (h : BoIs own w a hd c ax vF vH g b) (i : Nat) (hi : i < 37) : w.cell? ⟨a, i, none⟩ = some (woF hd c ax vF vH g b i) := h.row.row.cell hi
theorem BoIs.lt (h : BoIs own w a hd c ax vF vH g b) : a < w.heap.size := h.row.row.lt
theorem BoIs.frozen (h : BoIs own w a hd c ax vF vH g b) : ∀ i, w.frozen? ⟨a, i, none⟩ = false := h.row.row.frozen

/-- A store into one of the own cells. -/
theorem BoIs.set (h : BoIs own w a hd c ax vF vH g b) (j : Nat) (u : Value) {c' : Cf} {vF' vH' : Value} {b' : Bo} (hrow : ∀ i, i < 37 → woF hd c' ax vF' vH' g b' i = if i = j then u else woF hd c ax vF vH g b i)
    (hbu : b'.on.buckets = b.on.buckets) (hf : Sl anyC own w 10 6 vF' b'.f.length (fqCells b'.f)) (hh : Sl anyC own w (g 8) 1 vH' b'.here.length (natCells b'.here)) (e1 : b'.last = b.last) (e2 : b'.sent = b.sent) (e3 : b'.turn = b.turn) (e4 : b'.used = b.used) (e5 : b'.size = b.size) (e6 : b'.left = b.left) (e7 : b'.over = b.over) (e8 : b'.pairs = b.pairs) :
    BoIs own (w.setCell ⟨a, j, none⟩ u) a hd c' ax vF' vH' g b' := by
  have k : Fr (fun t => t = 2) own own w (w.setCell ⟨a, j, none⟩ u) := (Fr.refl _ own w).setCell a _ _ h.row.tag
  refine ⟨(h.row.set j u).congr (fun i hi => (hrow i hi).symm), hf.fr k (by show ¬ 10 = 2; omega), hh.fr k (by show ¬ g 8 = 2; rcases h.th with e | e <;> rw [e] <;> omega), ?_, ?_, ?_, ?_, ?_, ?_, ?_, ?_, h.th⟩
  · rw [hbu, e1]; exact h.la.fr k (by show ¬ 12 = 2; omega)
  · rw [hbu, e2]; exact h.se.fr k (by show ¬ 13 = 2; omega)
  · rw [hbu, e3]; exact h.tu.fr k (by show ¬ 14 = 2; omega)
  · rw [hbu, e4]; exact h.us.fr k (by show ¬ 15 = 2; omega)
  · rw [hbu, e5]; exact h.si.fr k (by show ¬ 16 = 2; omega)
  · rw [hbu, e6]; exact h.le.fr k (by show ¬ 17 = 2; omega)
  · rw [hbu, e7]; exact h.ov.fr k (by show ¬ 18 = 2; omega)
  · rw [hbu, e8]; exact h.pa.fr k (by show ¬ 19 = 2; omega)

theorem BoIs.laSet (h : BoIs own w a hd c ax vF vH g b) (i : Nat) (x : Int) : BoIs own (w.setCell ⟨g 0, i, none⟩ (.int .i64 x)) a hd c ax vF vH g { b with last := setAt b.last i x } ∧ Fr BTag own own w (w.setCell ⟨g 0, i, none⟩ (.int .i64 x)) := by
  have k : Fr (fun t => t = 12) own own w (w.setCell ⟨g 0, i, none⟩ (.int .i64 x)) := (Fr.refl _ own w).setCell (g 0) _ _ h.la.tag
  refine ⟨⟨h.row.fr k (by show ¬ 2 = 12; omega), h.f.fr k (by show ¬ 10 = 12; omega), h.here.fr k (by show ¬ g 8 = 12; rcases h.th with e | e <;> rw [e] <;> omega), ?_, h.se.fr k (by show ¬ 13 = 12; omega), h.tu.fr k (by show ¬ 14 = 12; omega), h.us.fr k (by show ¬ 15 = 12; omega), h.si.fr k (by show ¬ 16 = 12; omega), h.le.fr k (by show ¬ 17 = 12; omega), h.ov.fr k (by show ¬ 18 = 12; omega), h.pa.fr k (by show ¬ 19 = 12; omega), h.th⟩, k.mono (fun t e => by rw [e]; exact ⟨by omega, by omega⟩)⟩
  refine (h.la.set i _).congr (fun j _ => ?_)
  by_cases e : j = i
  · subst e; rw [if_pos rfl]; show _ = Value.int .i64 (setAt b.last j x j); rw [setAt_same]
  · rw [if_neg e]; show _ = Value.int .i64 (setAt b.last i x j); rw [setAt_other _ _ _ _ e]

theorem BoIs.seSet (h : BoIs own w a hd c ax vF vH g b) (i : Nat) (x : Nat) : BoIs own (w.setCell ⟨g 1, i, none⟩ (.int .i64 (x : Nat))) a hd c ax vF vH g { b with sent := setAt b.sent i x } ∧ Fr BTag own own w (w.setCell ⟨g 1, i, none⟩ (.int .i64 (x : Nat))) := by
  have k : Fr (fun t => t = 13) own own w (w.setCell ⟨g 1, i, none⟩ (.int .i64 (x : Nat))) := (Fr.refl _ own w).setCell (g 1) _ _ h.se.tag
  refine ⟨⟨h.row.fr k (by show ¬ 2 = 13; omega), h.f.fr k (by show ¬ 10 = 13; omega), h.here.fr k (by show ¬ g 8 = 13; rcases h.th with e | e <;> rw [e] <;> omega), h.la.fr k (by show ¬ 12 = 13; omega), ?_, h.tu.fr k (by show ¬ 14 = 13; omega), h.us.fr k (by show ¬ 15 = 13; omega), h.si.fr k (by show ¬ 16 = 13; omega), h.le.fr k (by show ¬ 17 = 13; omega), h.ov.fr k (by show ¬ 18 = 13; omega), h.pa.fr k (by show ¬ 19 = 13; omega), h.th⟩, k.mono (fun t e => by rw [e]; exact ⟨by omega, by omega⟩)⟩
  refine (h.se.set i _).congr (fun j _ => ?_)
  by_cases e : j = i
  · subst e; rw [if_pos rfl]; show _ = Value.int .i64 (setAt b.sent j x j : Nat); rw [setAt_same]
  · rw [if_neg e]; show _ = Value.int .i64 (setAt b.sent i x j : Nat); rw [setAt_other _ _ _ _ e]

theorem BoIs.tuSet (h : BoIs own w a hd c ax vF vH g b) (i : Nat) (x : Nat) : BoIs own (w.setCell ⟨g 2, i, none⟩ (.int .i64 (x : Nat))) a hd c ax vF vH g { b with turn := setAt b.turn i x } ∧ Fr BTag own own w (w.setCell ⟨g 2, i, none⟩ (.int .i64 (x : Nat))) := by
  have k : Fr (fun t => t = 14) own own w (w.setCell ⟨g 2, i, none⟩ (.int .i64 (x : Nat))) := (Fr.refl _ own w).setCell (g 2) _ _ h.tu.tag
  refine ⟨⟨h.row.fr k (by show ¬ 2 = 14; omega), h.f.fr k (by show ¬ 10 = 14; omega), h.here.fr k (by show ¬ g 8 = 14; rcases h.th with e | e <;> rw [e] <;> omega), h.la.fr k (by show ¬ 12 = 14; omega), h.se.fr k (by show ¬ 13 = 14; omega), ?_, h.us.fr k (by show ¬ 15 = 14; omega), h.si.fr k (by show ¬ 16 = 14; omega), h.le.fr k (by show ¬ 17 = 14; omega), h.ov.fr k (by show ¬ 18 = 14; omega), h.pa.fr k (by show ¬ 19 = 14; omega), h.th⟩, k.mono (fun t e => by rw [e]; exact ⟨by omega, by omega⟩)⟩
  refine (h.tu.set i _).congr (fun j _ => ?_)
  by_cases e : j = i
  · subst e; rw [if_pos rfl]; show _ = Value.int .i64 (setAt b.turn j x j : Nat); rw [setAt_same]
  · rw [if_neg e]; show _ = Value.int .i64 (setAt b.turn i x j : Nat); rw [setAt_other _ _ _ _ e]

theorem BoIs.usSet (h : BoIs own w a hd c ax vF vH g b) (i : Nat) (x : Bool) : BoIs own (w.setCell ⟨g 3, i, none⟩ (.bool x)) a hd c ax vF vH g { b with used := setAt b.used i x } ∧ Fr BTag own own w (w.setCell ⟨g 3, i, none⟩ (.bool x)) := by
  have k : Fr (fun t => t = 15) own own w (w.setCell ⟨g 3, i, none⟩ (.bool x)) := (Fr.refl _ own w).setCell (g 3) _ _ h.us.tag
  refine ⟨⟨h.row.fr k (by show ¬ 2 = 15; omega), h.f.fr k (by show ¬ 10 = 15; omega), h.here.fr k (by show ¬ g 8 = 15; rcases h.th with e | e <;> rw [e] <;> omega), h.la.fr k (by show ¬ 12 = 15; omega), h.se.fr k (by show ¬ 13 = 15; omega), h.tu.fr k (by show ¬ 14 = 15; omega), ?_, h.si.fr k (by show ¬ 16 = 15; omega), h.le.fr k (by show ¬ 17 = 15; omega), h.ov.fr k (by show ¬ 18 = 15; omega), h.pa.fr k (by show ¬ 19 = 15; omega), h.th⟩, k.mono (fun t e => by rw [e]; exact ⟨by omega, by omega⟩)⟩
  refine (h.us.set i _).congr (fun j _ => ?_)
  by_cases e : j = i
  · subst e; rw [if_pos rfl]; show _ = Value.bool (setAt b.used j x j); rw [setAt_same]
  · rw [if_neg e]; show _ = Value.bool (setAt b.used i x j); rw [setAt_other _ _ _ _ e]

theorem BoIs.siSet (h : BoIs own w a hd c ax vF vH g b) (i : Nat) (x : Nat) : BoIs own (w.setCell ⟨g 4, i, none⟩ (.int .i64 (x : Nat))) a hd c ax vF vH g { b with size := setAt b.size i x } ∧ Fr BTag own own w (w.setCell ⟨g 4, i, none⟩ (.int .i64 (x : Nat))) := by
  have k : Fr (fun t => t = 16) own own w (w.setCell ⟨g 4, i, none⟩ (.int .i64 (x : Nat))) := (Fr.refl _ own w).setCell (g 4) _ _ h.si.tag
  refine ⟨⟨h.row.fr k (by show ¬ 2 = 16; omega), h.f.fr k (by show ¬ 10 = 16; omega), h.here.fr k (by show ¬ g 8 = 16; rcases h.th with e | e <;> rw [e] <;> omega), h.la.fr k (by show ¬ 12 = 16; omega), h.se.fr k (by show ¬ 13 = 16; omega), h.tu.fr k (by show ¬ 14 = 16; omega), h.us.fr k (by show ¬ 15 = 16; omega), ?_, h.le.fr k (by show ¬ 17 = 16; omega), h.ov.fr k (by show ¬ 18 = 16; omega), h.pa.fr k (by show ¬ 19 = 16; omega), h.th⟩, k.mono (fun t e => by rw [e]; exact ⟨by omega, by omega⟩)⟩
  refine (h.si.set i _).congr (fun j _ => ?_)
  by_cases e : j = i
  · subst e; rw [if_pos rfl]; show _ = Value.int .i64 (setAt b.size j x j : Nat); rw [setAt_same]
  · rw [if_neg e]; show _ = Value.int .i64 (setAt b.size i x j : Nat); rw [setAt_other _ _ _ _ e]

theorem BoIs.leSet (h : BoIs own w a hd c ax vF vH g b) (i : Nat) (x : Nat) : BoIs own (w.setCell ⟨g 5, i, none⟩ (.int .i64 (x : Nat))) a hd c ax vF vH g { b with left := setAt b.left i x } ∧ Fr BTag own own w (w.setCell ⟨g 5, i, none⟩ (.int .i64 (x : Nat))) := by
  have k : Fr (fun t => t = 17) own own w (w.setCell ⟨g 5, i, none⟩ (.int .i64 (x : Nat))) := (Fr.refl _ own w).setCell (g 5) _ _ h.le.tag
  refine ⟨⟨h.row.fr k (by show ¬ 2 = 17; omega), h.f.fr k (by show ¬ 10 = 17; omega), h.here.fr k (by show ¬ g 8 = 17; rcases h.th with e | e <;> rw [e] <;> omega), h.la.fr k (by show ¬ 12 = 17; omega), h.se.fr k (by show ¬ 13 = 17; omega), h.tu.fr k (by show ¬ 14 = 17; omega), h.us.fr k (by show ¬ 15 = 17; omega), h.si.fr k (by show ¬ 16 = 17; omega), ?_, h.ov.fr k (by show ¬ 18 = 17; omega), h.pa.fr k (by show ¬ 19 = 17; omega), h.th⟩, k.mono (fun t e => by rw [e]; exact ⟨by omega, by omega⟩)⟩
  refine (h.le.set i _).congr (fun j _ => ?_)
  by_cases e : j = i
  · subst e; rw [if_pos rfl]; show _ = Value.int .i64 (setAt b.left j x j : Nat); rw [setAt_same]
  · rw [if_neg e]; show _ = Value.int .i64 (setAt b.left i x j : Nat); rw [setAt_other _ _ _ _ e]

theorem BoIs.ovSet (h : BoIs own w a hd c ax vF vH g b) (i : Nat) (x : Bool) : BoIs own (w.setCell ⟨g 6, i, none⟩ (.bool x)) a hd c ax vF vH g { b with over := setAt b.over i x } ∧ Fr BTag own own w (w.setCell ⟨g 6, i, none⟩ (.bool x)) := by
  have k : Fr (fun t => t = 18) own own w (w.setCell ⟨g 6, i, none⟩ (.bool x)) := (Fr.refl _ own w).setCell (g 6) _ _ h.ov.tag
  refine ⟨⟨h.row.fr k (by show ¬ 2 = 18; omega), h.f.fr k (by show ¬ 10 = 18; omega), h.here.fr k (by show ¬ g 8 = 18; rcases h.th with e | e <;> rw [e] <;> omega), h.la.fr k (by show ¬ 12 = 18; omega), h.se.fr k (by show ¬ 13 = 18; omega), h.tu.fr k (by show ¬ 14 = 18; omega), h.us.fr k (by show ¬ 15 = 18; omega), h.si.fr k (by show ¬ 16 = 18; omega), h.le.fr k (by show ¬ 17 = 18; omega), ?_, h.pa.fr k (by show ¬ 19 = 18; omega), h.th⟩, k.mono (fun t e => by rw [e]; exact ⟨by omega, by omega⟩)⟩
  refine (h.ov.set i _).congr (fun j _ => ?_)
  by_cases e : j = i
  · subst e; rw [if_pos rfl]; show _ = Value.bool (setAt b.over j x j); rw [setAt_same]
  · rw [if_neg e]; show _ = Value.bool (setAt b.over i x j); rw [setAt_other _ _ _ _ e]

end

/-- A store into a slice. -/
theorem Sl.store {G : Nat → Value → Prop} {own : Nat → Nat} {w : World} {t size g off n cap : Nat} {xs : List Value} (h : Sl G own w t size (.slice (some ⟨g, off, none⟩) n cap) n xs) (j : Nat) (u : Value) (hj : j < n * size) (hG : G (j % size) u) :
    Sl G own (w.setCell ⟨g, off + j, none⟩ u) t size (.slice (some ⟨g, off, none⟩) n cap) n (xs.set j u) := by
  obtain ⟨hx, h2⟩ := h
  rcases h2 with ⟨hv, _⟩ | ⟨g', off', cap', hv, ho, hg, hn, hm, hc, hr, hf⟩
  · cases hv
  · injection hv with e1 e2 e3
    injection e1 with e4
    injection e4 with e5 e6
    subst e5 e6 e3
    refine ⟨by rw [List.length_set]; exact hx, .inr ⟨g, off, cap, rfl, ho, by simpa [World.setCell] using hg, hn, hm, fun i v hv => ?_, fun i hi => ?_, fun i => by rw [World.frozen?_setCell]; exact hf i⟩⟩
    · by_cases e : i = j
      · subst e
        rw [List.getElem?_set_self (by omega)] at hv
        injection hv with hv
        subst hv
        obtain ⟨u0, hu0, _⟩ := hr i (Nat.lt_of_lt_of_le hj (Nat.mul_le_mul_right _ hn))
        exact World.cell?_setCell_same _ _ _ hu0
      · rw [List.getElem?_set_ne (Ne.symm e)] at hv
        rw [World.cell?_setCell_other _ _ _ _ (fun h => by injection h with _ h; omega)]
        exact hc i v hv
    · by_cases e : i = j
      · subst e
        obtain ⟨u0, hu0, _⟩ := hr i hi
        exact ⟨u, World.cell?_setCell_same _ _ _ hu0, hG⟩
      · rw [World.cell?_setCell_other _ _ _ _ (fun h => by injection h with _ h; omega)]
        exact hr i hi

theorem Sl.at {G : Nat → Value → Prop} {own : Nat → Nat} {w : World} {t size g off n cap : Nat} {xs : List Value} (h : Sl G own w t size (.slice (some ⟨g, off, none⟩) n cap) n xs) : own g = t ∧ g < w.heap.size ∧ n ≤ cap ∧ (∀ j u, xs[j]? = some u → w.cell? ⟨g, off + j, none⟩ = some u) ∧ (∀ j, w.frozen? ⟨g, j, none⟩ = false) := by
  obtain ⟨hx, h2⟩ := h
  rcases h2 with ⟨hv, _⟩ | ⟨g', off', cap', hv, ho, hg, hn, hm, hc, hr, hf⟩
  · cases hv
  · injection hv with e1 e2 e3
    injection e1 with e4
    injection e4 with e5 e6
    subst e5 e6 e3
    exact ⟨ho, hg, hn, hc, hf⟩

theorem Sl.some {G : Nat → Value → Prop} {own : Nat → Nat} {w : World} {t size n : Nat} {v : Value} {xs : List Value} (h : Sl G own w t size v n xs) (hn : 0 < n) : ∃ g off cap, v = .slice (some ⟨g, off, none⟩) n cap := by
  obtain ⟨hx, h2⟩ := h
  rcases h2 with ⟨_, h0⟩ | ⟨g, off, cap, hv, _⟩
  · omega
  · exact ⟨g, off, cap, hv⟩

theorem all37 {P : Nat → Prop} (h0 : P 0) (h1 : P 1) (h2 : P 2) (h3 : P 3) (h4 : P 4) (h5 : P 5) (h6 : P 6) (h7 : P 7) (h8 : P 8) (h9 : P 9) (h10 : P 10) (h11 : P 11) (h12 : P 12) (h13 : P 13) (h14 : P 14) (h15 : P 15) (h16 : P 16) (h17 : P 17) (h18 : P 18) (h19 : P 19) (h20 : P 20) (h21 : P 21) (h22 : P 22) (h23 : P 23) (h24 : P 24) (h25 : P 25) (h26 : P 26) (h27 : P 27) (h28 : P 28) (h29 : P 29) (h30 : P 30) (h31 : P 31) (h32 : P 32) (h33 : P 33) (h34 : P 34) (h35 : P 35) (h36 : P 36) : ∀ i, i < 37 → P i := by
  intro i hi
  match i, hi with
  | 0, _ => exact h0
  | 1, _ => exact h1
  | 2, _ => exact h2
  | 3, _ => exact h3
  | 4, _ => exact h4
  | 5, _ => exact h5
  | 6, _ => exact h6
  | 7, _ => exact h7
  | 8, _ => exact h8
  | 9, _ => exact h9
  | 10, _ => exact h10
  | 11, _ => exact h11
  | 12, _ => exact h12
  | 13, _ => exact h13
  | 14, _ => exact h14
  | 15, _ => exact h15
  | 16, _ => exact h16
  | 17, _ => exact h17
  | 18, _ => exact h18
  | 19, _ => exact h19
  | 20, _ => exact h20
  | 21, _ => exact h21
  | 22, _ => exact h22
  | 23, _ => exact h23
  | 24, _ => exact h24
  | 25, _ => exact h25
  | 26, _ => exact h26
  | 27, _ => exact h27
  | 28, _ => exact h28
  | 29, _ => exact h29
  | 30, _ => exact h30
  | 31, _ => exact h31
  | 32, _ => exact h32
  | 33, _ => exact h33
  | 34, _ => exact h34
  | 35, _ => exact h35
  | 36, _ => exact h36
  | n + 37, h => exact absurd h (by omega)

end Go.Proofs.Ytnkicbopebgppab

/-! The book's small helpers. -/
namespace Go.Proofs.Ytnkicbopebgppab
open Go.RowKit Fl

theorem is_yes (a : Nat) (part : Int) (w : World) :
    Calls Try.prog 26 #[.pointer (some ⟨a, 0, none⟩), .int .i64 part, .bool true] w fun e w' => e = .returned (.tuple #[]) ∧ w' = w := by
  go_enter Try.func26, Try.ntmps26
  go_wp2_with fail
  go_end0
  exact ⟨rfl, rfl⟩

theorem needs_yes (a : Nat) (w : World) :
    Calls Try.prog 28 #[.pointer (some ⟨a, 0, none⟩), .bool true] w fun e w' => e = .returned (.bool true) ∧ w' = w := by
  go_enter Try.func28, Try.ntmps28
  go_wp2_with fail
  go_ret
  exact ⟨rfl, rfl⟩

/-- Which of n things a raw number speaks of. -/
def pickOf (c : Int) (n : Nat) : Nat := ((if c < 0 then -(c + 1) else c) % n).toNat

theorem pickOf_lt (c : Int) (n : Nat) (h : 1 ≤ n) : pickOf c n < n := by
  unfold pickOf
  have h1 : (0 : Int) < n := by omega
  have h2 := Int.emod_lt_of_pos (if c < 0 then -(c + 1) else c) h1
  have h3 := Int.emod_nonneg (if c < 0 then -(c + 1) else c) (show (n : Int) ≠ 0 by omega)
  omega
theorem pickOf_int (c : Int) (n : Nat) (h : 1 ≤ n) : ((pickOf c n : Nat) : Int) = (if c < 0 then -(c + 1) else c) % n := by
  unfold pickOf
  have h3 := Int.emod_nonneg (if c < 0 then -(c + 1) else c) (show (n : Int) ≠ 0 by omega)
  omega

theorem pick_any (c : Int) (n k : Nat) (w : World) (h1 : -9223372036854775808 ≤ c) (h2 : c ≤ 9223372036854775807) (hn : 1 ≤ n) (hn2 : n ≤ 4611686018427387904) (hk : Bx (pickOf c n = k)) :
    Calls Try.prog 15 #[.int .i64 c, .int .i64 n] w fun e w' => e = .returned (.int .i64 k) ∧ w' = w := by
  have hki := pickOf_int c n hn
  rw [hk.out] at hki
  by_cases h0 : c < 0
  · rw [if_pos h0] at hki
    obtain ⟨d, hd, hd1, hd2⟩ : ∃ d : Nat, -(c + 1) = (d : Int) ∧ d ≤ 9223372036854775807 ∧ c = -(d : Int) - 1 := ⟨(-(c + 1)).toNat, by omega, by omega, by omega⟩
    rw [hd] at hki
    have hrem : Int.tmod (d : Int) n = k := by rw [hki]; exact Int.tmod_eq_emod_of_nonneg (by omega)
    have hk2 : (k : Int) < n := by rw [hki]; exact Int.emod_lt_of_pos _ (by omega)
    have hn0 : ¬ (n : Int) = 0 := by omega
    go_enter Try.func15, Try.ntmps15
    go_wp2_with fail
    go_ret
    refine ⟨ret_int ?_, rfl⟩
    omega
  · rw [if_neg h0] at hki
    have hrem : Int.tmod c n = k := by rw [hki]; exact Int.tmod_eq_emod_of_nonneg (by omega)
    have hk2 : (k : Int) < n := by rw [hki]; exact Int.emod_lt_of_pos _ (by omega)
    have hn0 : ¬ (n : Int) = 0 := by omega
    go_enter Try.func15, Try.ntmps15
    go_wp2_with fail
    go_ret
    refine ⟨ret_int ?_, rfl⟩
    omega


/-- Whatever bytes a row holds, they are a text's. -/
theorem bytesOf (f : Nat → Nat) (n : Nat) (hf : ∀ j, j < n → f j < 256) : ∃ s : ByteArray, s.size = n ∧ ∀ j, j < n → byteAt s j = f j := by
  refine ⟨⟨(Array.range n).map (fun j => UInt8.ofNat (f j))⟩, by show ((Array.range n).map _).size = n; simp, fun j hj => ?_⟩
  rw [byteAt_data]
  simp only [Array.getElem?_map, Array.getElem?_range, hj, if_true, Option.map_some, Option.getD_some]
  rw [UInt8.toNat_ofNat']
  exact Nat.mod_eq_of_lt (hf j hj)

/-- A text is copied into a row of bytes. -/
theorem run_copy_text {P : Program} (w : World) (dT sT elem : TypeId) (b n : Nat) (s : ByteArray) (hu : P.underlying dT = some (.slice elem)) (hs : (P.info? elem).map (·.size) = some 1)
    (hc : ∀ j, j < n → w.cell? ⟨b, j, none⟩ = some (.int .u8 0)) (hf : ∀ j, w.frozen? ⟨b, j, none⟩ = false) :
    ∃ (m : Int) (w' : World) (s' : ByteArray), (∀ ty, (Builtin.copy_ #[dT, sT] ty #[.slice (some ⟨b, 0, none⟩) n n, .string s]).run P w = .ok (.int .i64 m) w') ∧ s'.size = n ∧ BytesAt w' b s' ∧ (∀ B, B ≤ b → Below B w w') ∧ w'.heap.size = w.heap.size := by
  obtain ⟨cs, hcs⟩ : ∃ cs : List Value, cs = ((s.extract 0 (Nat.min s.size n)).data.map fun b => Value.int .u8 b.toNat).toList := ⟨_, rfl⟩
  have hm : Nat.min s.size n = min s.size n := rfl
  have hlen : cs.length = Nat.min s.size n := by
    rw [hcs]
    simp
  have hle : cs.length ≤ n := by rw [hlen, hm]; omega
  have h1 : ∀ v ∈ cs, v.oneCell' = true := by
    intro v hv
    rw [hcs] at hv
    simp only [Array.toList_map, List.mem_map] at hv
    obtain ⟨x, _, rfl⟩ := hv
    rfl
  have hval : ∀ j (hj : j < cs.length), ∃ x : Nat, x < 256 ∧ cs[j] = .int .u8 (x : Nat) := by
    intro j hj
    have : cs[j] ∈ cs := List.getElem_mem hj
    have h2 : ∀ v ∈ cs, ∃ x : Nat, x < 256 ∧ v = .int .u8 (x : Nat) := by
      intro v hv
      rw [hcs] at hv
      simp only [Array.toList_map, List.mem_map] at hv
      obtain ⟨x, _, rfl⟩ := hv
      exact ⟨x.toNat, x.toNat_lt, rfl⟩
    exact h2 _ this
  have hst := run_storeCells_cells (P := P) b 0 cs 0 w (fun j hj => by rw [show 0 + 0 + j = j by omega, hc j (by omega)]; rfl) (fun j _ => hf _) h1
  have hcell : ∀ j, j < n → ∃ x : Nat, x < 256 ∧ (w.setCells b 0 cs).cell? ⟨b, j, none⟩ = some (.int .u8 (x : Nat)) := by
    intro j hj
    by_cases e : j < cs.length
    · obtain ⟨x, hx, hv⟩ := hval j e
      have := World.cell?_setCells_in b cs 0 w (fun i hi => by rw [Nat.zero_add, hc i (by omega)]; rfl) j e
      rw [Nat.zero_add] at this
      exact ⟨x, hx, by rw [this, hv]⟩
    · rw [World.cell?_setCells_out b cs 0 w ⟨b, j, none⟩ (fun _ _ => by show j < 0 ∨ 0 + cs.length ≤ j; omega), hc j hj]
      exact ⟨0, by omega, rfl⟩
  have hbel : ∀ (vs : List Value) (o : Nat) (w : World), (w.setCells b o vs).heap.size = w.heap.size ∧ (∀ B, B ≤ b → Below B w (w.setCells b o vs)) := by
    intro vs
    induction vs with
    | nil => intro o w; exact ⟨rfl, fun B _ => Below.refl _ _⟩
    | cons v vs ih =>
      intro o w
      obtain ⟨i1, i2⟩ := ih (o + 1) (w.setCell ⟨b, o, none⟩ v)
      exact ⟨i1.trans (by simp [World.setCell]), fun B hB => ((Below.refl _ _).setCell (p := ⟨b, o, none⟩) hB _).trans (i2 B hB)⟩
  obtain ⟨s', hs', hb'⟩ := bytesOf (fun j => if h : j < n then (hcell j h).choose else 0) n (fun j hj => by simp only [hj, dif_pos]; exact (hcell j hj).choose_spec.1)
  refine ⟨((Nat.min s.size n : Nat) : Int), w.setCells b 0 cs, s', ?_, hs', ⟨fun j hj => ?_⟩, (hbel cs 0 w).2, (hbel cs 0 w).1⟩
  · intro ty
    cases hq : P.info? elem with
    | none => simp [hq] at hs
    | some i =>
      have hi : i.size = 1 := by simpa [hq] using hs
      simp only [Nat.add_zero] at hst
      have hcs' : List.take (Nat.min s.size n) (List.map (fun b : UInt8 => Value.int .u8 b.toNat) s.data.toList) = cs := by rw [hcs]; simp
      simp [Builtin.copy_, run_underlying hu, Builtin.lenOf, Builtin.firstCells, sizeOf, typeInfo, hq]
      rw [hcs', hst]
      rfl
  · rw [hs'] at hj
    rw [hb' j hj]
    simp only [hj, dif_pos]
    exact (hcell j hj).choose_spec.2

theorem infoByte : (Try.prog.info? 5).map (fun i => (i.zero, i.size, i.bytes)) = some (some (.int .u8 0), 1, 1) := by kernel_rfl

theorem make_bytes (n : Nat) (hn : n ≤ 1000) (w : World) : (Instr.makeSlice 54 (.int .i64 (n : Int)) (.int .i64 (n : Int))).run Try.prog w = .ok (.slice (some ⟨w.heap.size, 0, none⟩) n n) (w.alloc (Obj.cells (madeCells #[.int .u8 0] n) 5)) := by
  obtain ⟨i0, hi, hz0, hz1, hz2⟩ := info_parts infoByte
  have h := run_make (P := Try.prog) w 54 5 i0 (.int .u8 0) Try.underlying54 hi hz0 .i64 .i64 (n : Int) (n : Int) (by omega) (Int.le_refl _) (by rw [hz2]; omega) (by omega)
  have e : ((n : Int)).toNat = n := by omega
  rw [e] at h
  simpa [hz1, Value.cells] using h

theorem made_bytes (n : Nat) (w : World) : (∀ j, j < n → (w.alloc (Obj.cells (madeCells #[.int .u8 0] n) 5)).cell? ⟨w.heap.size, j, none⟩ = some (.int .u8 0)) ∧ ∀ j, (w.alloc (Obj.cells (madeCells #[.int .u8 0] n) 5)).frozen? ⟨w.heap.size, j, none⟩ = false := by
  refine ⟨fun j hj => ?_, fun j => World.frozen?_alloc_at _ _ _ _ rfl⟩
  rw [World.cell?_alloc_at _ _ _ _ rfl]
  simp only [madeCells, Array.getElem?_map, Array.getElem?_range]
  simp [hj, Nat.mod_one]

theorem wpList_copy_text (w : World) {ops : Array Oper} {rest : List Oper} {o : Oper} {a : Act} {Q : Exit → Act → World → Prop} (hgd : o.guard = none) (y x : Operand)
    (hop : o.op = Op.call { callee := Callee.builtin Builtin.copy, args := #[y, x], argTypes := #[54, 9] }) (b n : Nat) (s : ByteArray) (hy : a.eval y = .slice (some ⟨b, 0, none⟩) n n) (hx : a.eval x = .string s) (m : Int) (w2 : World)
    (hrun : ∀ ty, (Builtin.copy_ #[54, 9] ty #[.slice (some ⟨b, 0, none⟩) n n, .string s]).run Try.prog w = .ok (.int .i64 m) w2)
    (h : wpList Try.prog ops Q rest (a.put o.dst (.int .i64 m)) w2) : wpList Try.prog ops Q (o :: rest) a w := by
  refine wpList_plain hgd fun K hK' => ?_
  unfold Oper.wp
  simp [execOp, hop, resolve, invoke, builtin, hy, hx, hrun, Result.andThen]
  exact hK' _ _ h

set_option maxRecDepth 100000 in
set_option maxHeartbeats 800000 in
theorem fill_any (t : ByteArray) (n : Nat) (w : World) (hn : n ≤ 200) :
    Calls Try.prog 12 #[.string t, .int .i64 n] w fun e w' => ∃ k : ByteArray, e = .returned (.string k) ∧ k.size = n ∧ Below w.heap.size w w' := by
  have hm := make_bytes n (by omega)
  obtain ⟨m1, m2⟩ := made_bytes n w
  obtain ⟨m, w2, k, hrun, hk, hb, hbel, hsz⟩ := run_copy_text (P := Try.prog) (w.alloc (Obj.cells (madeCells #[.int .u8 0] n) 5)) 54 9 5 w.heap.size n t Try.underlying54 (by obtain ⟨i0, hi, _, hz1, _⟩ := info_parts infoByte; rw [hi, Option.map_some, hz1]) m1 m2
  have hB : Below w.heap.size w w2 := ((Below.refl _ _).alloc (Nat.le_refl _) _).trans (hbel _ (Nat.le_refl _))
  have HB : Bx _ := ⟨hB⟩
  clear hB hbel m1 m2
  go_enter Try.func12, Try.ntmps12
  go_wp2_with first
    | (refine wpList_copy_text _ rfl _ _ rfl w.heap.size n t (by simp) (by simp) m w2 hrun ?_)
    | (refine wpList_back _ rfl 54 9 _ rfl 5 k w.heap.size 0 n n Try.underlying54 Try.underlying9 Try.underlying5 rfl hk (fun i hi => by rw [Nat.zero_add]; exact hb.cell i (by omega)) ?_)
  go_ret
  exact ⟨k, rfl, hk, HB.out⟩

end Go.Proofs.Ytnkicbopebgppab

/-! An event is booked. -/
namespace Go.Proofs.Ytnkicbopebgppab
open Go.RowKit Fl

/-- The cells that booking reads. -/
structure EvC (w : World) (a ge oe gf of cap ax : Nat) (g : Nat → Nat) (e : Ev) (F : Fq) (b : Bo) : Prop where
  e0 : w.cell? ⟨ge, oe, none⟩ = some (.int .i64 e.time)
  e1 : w.cell? ⟨ge, oe + 1, none⟩ = some (.int .i64 e.kind)
  e2 : w.cell? ⟨ge, oe + 2, none⟩ = some (.int .i64 e.id)
  e3 : w.cell? ⟨ge, oe + 3, none⟩ = some (.int .i64 e.b)
  e4 : w.cell? ⟨ge, oe + 4, none⟩ = some (.string e.s)
  f0 : w.cell? ⟨gf, of + e.id * 6, none⟩ = some (.string F.s)
  f1 : w.cell? ⟨gf, of + e.id * 6 + 1, none⟩ = some (.int .i64 F.at_)
  f2 : w.cell? ⟨gf, of + e.id * 6 + 2, none⟩ = some (.bool F.able)
  f3 : w.cell? ⟨gf, of + e.id * 6 + 3, none⟩ = some (.bool F.gone)
  f4 : w.cell? ⟨gf, of + e.id * 6 + 4, none⟩ = some (.int .i64 F.first)
  f5 : w.cell? ⟨gf, of + e.id * 6 + 5, none⟩ = some (.int .i64 F.soon)
  c13 : w.cell? ⟨a, 13, none⟩ = some (.pointer (some ⟨ax, 0, none⟩))
  c14 : w.cell? ⟨a, 14, none⟩ = some (.int .i64 b.on.buckets)
  c19 : w.cell? ⟨a, 19, none⟩ = some (.int .i64 b.on.target)
  c21 : w.cell? ⟨a, 21, none⟩ = some (.int .i64 b.on.tau)
  c22 : w.cell? ⟨a, 22, none⟩ = some (.bool b.on.ecn)
  c24 : w.cell? ⟨a, 24, none⟩ = some (.slice (some ⟨gf, of, none⟩) b.f.length cap)
  c26 : w.cell? ⟨a, 26, none⟩ = some (.int .i64 b.till)
  c27 : w.cell? ⟨a, 27, none⟩ = some (.bool b.old)
  c28 : w.cell? ⟨a, 28, none⟩ = some (.int .i64 b.when_)
  c29 : w.cell? ⟨a, 29, none⟩ = some (.slice (some ⟨g 0, 0, none⟩) b.on.buckets b.on.buckets)
  c30 : w.cell? ⟨a, 30, none⟩ = some (.slice (some ⟨g 1, 0, none⟩) b.on.buckets b.on.buckets)
  c31 : w.cell? ⟨a, 31, none⟩ = some (.slice (some ⟨g 2, 0, none⟩) b.on.buckets b.on.buckets)
  c33 : w.cell? ⟨a, 33, none⟩ = some (.slice (some ⟨g 4, 0, none⟩) b.on.buckets b.on.buckets)
  c34 : w.cell? ⟨a, 34, none⟩ = some (.slice (some ⟨g 5, 0, none⟩) b.on.buckets b.on.buckets)
  c35 : w.cell? ⟨a, 35, none⟩ = some (.slice (some ⟨g 6, 0, none⟩) b.on.buckets b.on.buckets)
  la : w.cell? ⟨g 0, e.b, none⟩ = some (.int .i64 (b.last e.b))
  se : w.cell? ⟨g 1, e.b, none⟩ = some (.int .i64 (b.sent e.b : Nat))
  tu : w.cell? ⟨g 2, e.b, none⟩ = some (.int .i64 (b.turn e.b : Nat))
  si : w.cell? ⟨g 4, e.b, none⟩ = some (.int .i64 (b.size e.b : Nat))
  le : w.cell? ⟨g 5, e.b, none⟩ = some (.int .i64 (b.left e.b : Nat))
  ov : w.cell? ⟨g 6, e.b, none⟩ = some (.bool (b.over e.b))
  za : ∀ i, w.frozen? ⟨a, i, none⟩ = false
  zf : ∀ i, w.frozen? ⟨gf, i, none⟩ = false
  z0 : ∀ i, w.frozen? ⟨g 0, i, none⟩ = false
  z1 : ∀ i, w.frozen? ⟨g 1, i, none⟩ = false
  z2 : ∀ i, w.frozen? ⟨g 2, i, none⟩ = false
  z4 : ∀ i, w.frozen? ⟨g 4, i, none⟩ = false
  z5 : ∀ i, w.frozen? ⟨g 5, i, none⟩ = false
  z6 : ∀ i, w.frozen? ⟨g 6, i, none⟩ = false

/-- Where an event lies. -/
structure EvAt (w : World) (ge oe : Nat) (e : Ev) : Prop where
  e0 : w.cell? ⟨ge, oe, none⟩ = some (.int .i64 e.time)
  e1 : w.cell? ⟨ge, oe + 1, none⟩ = some (.int .i64 e.kind)
  e2 : w.cell? ⟨ge, oe + 2, none⟩ = some (.int .i64 e.id)
  e3 : w.cell? ⟨ge, oe + 3, none⟩ = some (.int .i64 e.b)
  e4 : w.cell? ⟨ge, oe + 4, none⟩ = some (.string e.s)

/-- Where booking stands. -/
structure EvR (own : Nat → Nat) (w wr : World) (a hd : Nat) (c : Cf) (ax : Nat) (gf of cap : Nat) (vH : Value) (g : Nat → Nat) (ge oe : Nat) (e : Ev) (b : Bo) : Prop where
  bo : BoIs own wr a hd c ax (.slice (some ⟨gf, of, none⟩) b.f.length cap) vH g b
  fr : Fr BTag own own w wr
  ev : EvAt wr ge oe e
  tg : own ge = 50
  lt : ge < w.heap.size

section
variable {own : Nat → Nat} {w wr wx : World} {a hd : Nat} {c : Cf} {ax gf of cap : Nat} {vH : Value} {g : Nat → Nat} {ge oe : Nat} {e : Ev} {b : Bo}

theorem EvR.cells (h : EvR own w wr a hd c ax gf of cap vH g ge oe e b) (hid : e.id < b.f.length) (hb : e.b < b.on.buckets) : EvC wr a ge oe gf of cap ax g e (b.fr e.id) b := by
  obtain ⟨_, _, _, hc, hz⟩ := Sl.at h.bo.f
  have F : ∀ j u, j < 6 → (b.fr e.id).cells[j]? = some u → wr.cell? ⟨gf, of + (e.id * 6 + j), none⟩ = some u := fun j u hj hu => hc _ u ((fqCells_get b.f e.id j hid hj).trans hu)
  exact ⟨h.ev.e0, h.ev.e1, h.ev.e2, h.ev.e3, h.ev.e4, F 0 _ (by omega) rfl, F 1 _ (by omega) rfl, F 2 _ (by omega) rfl, F 3 _ (by omega) rfl, F 4 _ (by omega) rfl, F 5 _ (by omega) rfl,
    h.bo.cell 13 (by omega), h.bo.cell 14 (by omega), h.bo.cell 19 (by omega), h.bo.cell 21 (by omega), h.bo.cell 22 (by omega), h.bo.cell 24 (by omega), h.bo.cell 26 (by omega), h.bo.cell 27 (by omega), h.bo.cell 28 (by omega), h.bo.cell 29 (by omega), h.bo.cell 30 (by omega), h.bo.cell 31 (by omega), h.bo.cell 33 (by omega), h.bo.cell 34 (by omega), h.bo.cell 35 (by omega),
    h.bo.la.row.cell hb, h.bo.se.row.cell hb, h.bo.tu.row.cell hb, h.bo.si.row.cell hb, h.bo.le.row.cell hb, h.bo.ov.row.cell hb, h.bo.frozen, hz, h.bo.la.row.frozen, h.bo.se.row.frozen, h.bo.tu.row.frozen, h.bo.si.row.frozen, h.bo.le.row.frozen, h.bo.ov.row.frozen⟩

theorem EvAt.fr {T : Nat → Prop} {own' : Nat → Nat} (h : EvAt wr ge oe e) (k : Fr T own own' wr wx) (hlt : ge < wr.heap.size) (hT : ¬ T (own ge)) : EvAt wx ge oe e :=
  ⟨(k.cell _ hlt hT).trans h.e0, (k.cell _ hlt hT).trans h.e1, (k.cell _ hlt hT).trans h.e2, (k.cell _ hlt hT).trans h.e3, (k.cell _ hlt hT).trans h.e4⟩

theorem EvR.step (h : EvR own w wr a hd c ax gf of cap vH g ge oe e b) {b' : Bo} (hb : BoIs own wx a hd c ax (.slice (some ⟨gf, of, none⟩) b'.f.length cap) vH g b') (k : Fr BTag own own wr wx) : EvR own w wx a hd c ax gf of cap vH g ge oe e b' :=
  ⟨hb, h.fr.trans k, h.ev.fr k (Nat.lt_of_lt_of_le h.lt h.fr.size) (by rw [h.tg]; show ¬ (2 ≤ 50 ∧ 50 < 20); omega), h.tg, h.lt⟩

theorem EvR.drew (h : EvR own w wr a hd c ax gf of cap vH g ge oe e b) : EvR own w wr.drew a hd c ax gf of cap vH g ge oe e b :=
  h.step (h.bo.below ((Below.refl _ _).drew)) (Fr.below (Below.refl _ _).drew)

/-- The frame is gone. -/
theorem EvR.gone (h : EvR own w wr a hd c ax gf of cap vH g ge oe e b) (hid : e.id < b.f.length) : EvR own w (wr.setCell ⟨gf, of + e.id * 6 + 3, none⟩ (.bool true)) a hd c ax gf of cap vH g ge oe e { b with f := b.f.set e.id { b.fr e.id with gone := true } } := by
  have hs := h.bo.f
  have htg := (Sl.at hs).1
  have h1 := Sl.store hs (e.id * 6 + 3) (.bool true) (by omega) trivial
  rw [← Nat.add_assoc] at h1
  have k : Fr (fun t => t = 10) own own wr (wr.setCell ⟨gf, of + e.id * 6 + 3, none⟩ (.bool true)) := (Fr.refl _ own wr).setCell gf _ _ htg
  have e1 := fqCells_set b.f e.id 3 (.bool true) { b.fr e.id with gone := true } hid (by omega) rfl
  refine h.step ⟨?_, ?_, h.bo.here.fr k (by show ¬ g 8 = 10; rcases h.bo.th with e | e <;> rw [e] <;> omega), h.bo.la.fr k (by show ¬ 12 = 10; omega), h.bo.se.fr k (by show ¬ 13 = 10; omega), h.bo.tu.fr k (by show ¬ 14 = 10; omega), h.bo.us.fr k (by show ¬ 15 = 10; omega), h.bo.si.fr k (by show ¬ 16 = 10; omega), h.bo.le.fr k (by show ¬ 17 = 10; omega), h.bo.ov.fr k (by show ¬ 18 = 10; omega), h.bo.pa.fr k (by show ¬ 19 = 10; omega), h.bo.th⟩ (k.mono (fun t e => by rw [e]; exact ⟨by omega, by omega⟩))
  · show Row own _ 2 a _ 37 (woF hd c ax (.slice (some ⟨gf, of, none⟩) (b.f.set e.id { b.fr e.id with gone := true }).length cap) vH g _)
    rw [List.length_set]
    exact h.bo.row.fr k (by show ¬ 2 = 10; omega)
  · show Sl anyC own _ 10 6 (.slice (some ⟨gf, of, none⟩) (b.f.set e.id { b.fr e.id with gone := true }).length cap) (b.f.set e.id { b.fr e.id with gone := true }).length (fqCells (b.f.set e.id { b.fr e.id with gone := true }))
    rw [List.length_set, e1]
    exact h1

/-- A store into one of the own cells. -/
theorem EvR.own_ (h : EvR own w wr a hd c ax gf of cap vH g ge oe e b) (j : Nat) (u : Value) {b' : Bo} (hrow : ∀ i, i < 37 → woF hd c ax (.slice (some ⟨gf, of, none⟩) b'.f.length cap) vH g b' i = if i = j then u else woF hd c ax (.slice (some ⟨gf, of, none⟩) b.f.length cap) vH g b i)
    (hbu : b'.on.buckets = b.on.buckets) (hf : b'.f = b.f) (hh : b'.here = b.here) (e1 : b'.last = b.last) (e2 : b'.sent = b.sent) (e3 : b'.turn = b.turn) (e4 : b'.used = b.used) (e5 : b'.size = b.size) (e6 : b'.left = b.left) (e7 : b'.over = b.over) (e8 : b'.pairs = b.pairs) :
    EvR own w (wr.setCell ⟨a, j, none⟩ u) a hd c ax gf of cap vH g ge oe e b' :=
  h.step (h.bo.set j u hrow hbu (by rw [hf]; exact h.bo.f) (by rw [hh]; exact h.bo.here) e1 e2 e3 e4 e5 e6 e7 e8) (((Fr.refl _ own wr).setCell a _ _ (by rw [h.bo.row.tag]; exact ⟨by omega, by omega⟩)))

theorem EvR.laSet (h : EvR own w wr a hd c ax gf of cap vH g ge oe e b) (i : Nat) (x : Int) : EvR own w (wr.setCell ⟨g 0, i, none⟩ (.int .i64 x)) a hd c ax gf of cap vH g ge oe e { b with last := setAt b.last i x } :=
  h.step (b' := { b with last := setAt b.last i x }) (h.bo.laSet i x).1 (h.bo.laSet i x).2
theorem EvR.seSet (h : EvR own w wr a hd c ax gf of cap vH g ge oe e b) (i : Nat) (x : Nat) : EvR own w (wr.setCell ⟨g 1, i, none⟩ (.int .i64 (x : Nat))) a hd c ax gf of cap vH g ge oe e { b with sent := setAt b.sent i x } :=
  h.step (b' := { b with sent := setAt b.sent i x }) (h.bo.seSet i x).1 (h.bo.seSet i x).2
theorem EvR.tuSet (h : EvR own w wr a hd c ax gf of cap vH g ge oe e b) (i : Nat) (x : Nat) : EvR own w (wr.setCell ⟨g 2, i, none⟩ (.int .i64 (x : Nat))) a hd c ax gf of cap vH g ge oe e { b with turn := setAt b.turn i x } :=
  h.step (b' := { b with turn := setAt b.turn i x }) (h.bo.tuSet i x).1 (h.bo.tuSet i x).2
theorem EvR.siSet (h : EvR own w wr a hd c ax gf of cap vH g ge oe e b) (i : Nat) (x : Nat) : EvR own w (wr.setCell ⟨g 4, i, none⟩ (.int .i64 (x : Nat))) a hd c ax gf of cap vH g ge oe e { b with size := setAt b.size i x } :=
  h.step (b' := { b with size := setAt b.size i x }) (h.bo.siSet i x).1 (h.bo.siSet i x).2
theorem EvR.leSet (h : EvR own w wr a hd c ax gf of cap vH g ge oe e b) (i : Nat) (x : Nat) : EvR own w (wr.setCell ⟨g 5, i, none⟩ (.int .i64 (x : Nat))) a hd c ax gf of cap vH g ge oe e { b with left := setAt b.left i x } :=
  h.step (b' := { b with left := setAt b.left i x }) (h.bo.leSet i x).1 (h.bo.leSet i x).2
theorem EvR.ovSet (h : EvR own w wr a hd c ax gf of cap vH g ge oe e b) (i : Nat) (x : Bool) : EvR own w (wr.setCell ⟨g 6, i, none⟩ (.bool x)) a hd c ax gf of cap vH g ge oe e { b with over := setAt b.over i x } :=
  h.step (b' := { b with over := setAt b.over i x }) (h.bo.ovSet i x).1 (h.bo.ovSet i x).2

end
end Go.Proofs.Ytnkicbopebgppab

/-! An event is booked: the walk. -/
namespace Go.Proofs.Ytnkicbopebgppab
open Go.RowKit Fl

/-- Numbers that do not go round. -/
structure EvB (b : Bo) (e : Ev) : Prop where
  t : e.time ≤ 4611686018427387904
  u : b.on.tau ≤ 1048576
  se : b.sent e.b ≤ 1099511627776
  tu : b.turn e.b ≤ 1099511627776
  le : b.left e.b ≤ 1099511627776
  si : b.size e.b ≤ 1099511627776
  id : b.f.length ≤ 1099511627776
  ta : b.on.target ≤ 1099511627776

theorem EvR.drewN {own : Nat → Nat} {w wr : World} {a hd : Nat} {c : Cf} {ax gf of cap : Nat} {vH : Value} {g : Nat → Nat} {ge oe : Nat} {e : Ev} {b : Bo} (h : EvR own w wr a hd c ax gf of cap vH g ge oe e b) (n : Nat) : EvR own w (wr.drewN n) a hd c ax gf of cap vH g ge oe e b :=
  h.step (h.bo.below ((Below.refl _ _).drewN n)) (Fr.below ((Below.refl _ _).drewN n))
theorem EvR.cast {own : Nat → Nat} {w wr wx : World} {a hd : Nat} {c : Cf} {ax gf of cap : Nat} {vH : Value} {g : Nat → Nat} {ge oe : Nat} {e : Ev} {b b' : Bo} (h : EvR own w wr a hd c ax gf of cap vH g ge oe e b) (e1 : wr = wx) (e2 : b = b') : EvR own w wx a hd c ax gf of cap vH g ge oe e b' := by
  subst e1 e2; exact h

/-- That a marked frame is an honest one. -/
def HonestIs : Prop := ∀ (s t : ByteArray) (w : World), s.size ≤ 200 → canB s = true → t = markOf s → Calls Try.prog 55 #[.string s, .string t] w fun e w' => e = .returned (.bool true) ∧ ∃ m, w' = w.drewN m

set_option maxRecDepth 100000 in
set_option maxHeartbeats 12800000 in
theorem event_over (own : Nat → Nat) (a hd : Nat) (c : Cf) (ax : Nat) (p : Pt) (ge oe : Nat) (e : Ev) (b : Bo) (w : World) (h : BoAt own w a hd c ax b) (hp : PtAt own w 100 ax p) (he : EvAt w ge oe e) (hge : own ge = 50) (hlt : ge < w.heap.size) (hE : ∀ hd, EvOk hd p.now b e) (hB : EvB b e) (hk : e.kind = 3) :
    Calls Try.prog 38 #[.pointer (some ⟨a, 0, none⟩), .pointer (some ⟨ge, oe, none⟩)] w fun r w' => r = .returned (.tuple #[]) ∧ BoAt own w' a hd c ax (b.event e) ∧ Fr BTag own own w w' := by
  obtain ⟨vF, vH, g, h⟩ := h
  have P := hE 0
  obtain ⟨gf, of, cap, rfl⟩ := Sl.some h.f (Nat.lt_of_le_of_lt (Nat.zero_le _) P.id)
  have HR : Bx (EvR own w w a hd c ax gf of cap vH g ge oe e b) := ⟨⟨h, Fr.refl _ _ _, he, hge, hlt⟩⟩
  have HNW : Bx _ := ⟨pnow_any own 100 ax p.counts p w hp⟩
  have hcap : b.f.length ≤ cap := (Sl.at h.f).2.2.1
  have hid := P.id
  have hbu := P.bu
  have i1 : (e.id : Int) < b.f.length := by omega
  have i2 : ((b.when_ : Nat) : Int) ≤ e.time := by have := P.lo; omega
  have i3 : ((e.time : Nat) : Int) ≤ p.now := by have := P.hi; omega
  have i4 : ((e.b : Nat) : Int) < b.on.buckets := by omega
  have i5 : b.last e.b < (e.id : Int) := P.last
  have iF : (b.fr e.id).s.size ≤ 200 := P.small
  have iS : (b.fr e.id).s.size ≤ b.size e.b := P.fit
  have iA : (b.fr e.id).at_ ≤ e.time := P.since
  obtain ⟨B1, B2, B3, B4, B5, B6, B7, B8⟩ := hB
  have tgf := (Sl.at h.f).1
  have tga := h.row.tag
  have tg0 := h.la.tag; have tg1 := h.se.tag; have tg2 := h.tu.tag; have tg4 := h.si.tag; have tg5 := h.le.tag; have tg6 := h.ov.tag
  have n1 : ¬ gf = ge := fun x => by rw [x, hge] at tgf; omega
  have n2 : ¬ gf = a := fun x => by rw [x, tga] at tgf; omega
  have n3 : ¬ ge = gf := fun x => n1 x.symm
  have n4 : ¬ a = gf := fun x => n2 x.symm
  have N0 : Bx (¬ g 0 = ge ∧ ¬ g 0 = a ∧ ¬ g 1 = ge ∧ ¬ g 2 = ge ∧ ¬ g 4 = ge ∧ ¬ g 5 = ge ∧ ¬ g 6 = ge) := ⟨fun x => (by rw [x, hge] at tg0; omega), fun x => (by rw [x, tga] at tg0; omega), fun x => (by rw [x, hge] at tg1; omega), fun x => (by rw [x, hge] at tg2; omega), fun x => (by rw [x, hge] at tg4; omega), fun x => (by rw [x, hge] at tg5; omega), fun x => (by rw [x, hge] at tg6; omega)⟩
  have HE : Bx _ := ⟨hE⟩
  have HF0 : Bx ((b.fr e.id).gone = false) := ⟨P.gone⟩
  obtain ⟨F, HF⟩ : ∃ F, Bx (b.fr e.id = F) := ⟨_, ⟨rfl⟩⟩
  rw [HF.out] at iF iS iA HF0
  clear h hp he hE P tgf tga tg0 tg1 tg2 tg4 tg5 tg6
  have HK : Bx _ := ⟨hk⟩
  clear hk
  have c13 := (HR.out.cells hid hbu).c13
  go_enter Try.func38, Try.ntmps38
  go_wp2_with fail
  refine HNW.out.mono ?_
  rintro r w1 ⟨rfl, hb1⟩
  have HR1 : Bx (EvR own w w1 a hd c ax gf of cap vH g ge oe e b) := ⟨HR.out.step (HR.out.bo.below hb1) (Fr.below hb1)⟩
  clear HR c13 hb1 HNW
  go_wp2_with fail
  go_cut [6] from 18 to 74 (fun v6 wx => v6 = .bool true ∧ EvR own w wx a hd c ax gf of cap vH g ge oe e b)
  case first =>
    have C := HR1.out.cells hid hbu
    rw [HF.out] at C
    have e0 := C.e0
    have e2 := C.e2
    have e3 := C.e3
    have c14 := C.c14
    have c24 := C.c24
    have c28 := C.c28
    clear C
    go_quiet ((go_at_call 28; exact Calls.quiet_of_same (needs_yes a _)))
    all_goals go_wp2_with fail
    all_goals go_meet
    all_goals exact ⟨rfl, HR1.out.drewN _⟩
  case rest =>
    obtain ⟨rfl, R2⟩ := hcut
    have HR2 : Bx _ := ⟨R2⟩
    clear R2 HR1
    go_wp2_with fail
    go_cut [7] from 77 to 85 (fun v7 wx => v7 = .pointer (some ⟨gf, of + e.id * 6, none⟩) ∧ EvR own w wx a hd c ax gf of cap vH g ge oe e b)
    case first =>
      have C := HR2.out.cells hid hbu
      rw [HF.out] at C
      have e2 := C.e2
      have c24 := C.c24
      clear C
      go_quiet (fail)
      all_goals go_wp2_with fail
      all_goals go_meet
      all_goals exact ⟨rfl, HR2.out.drewN _⟩
    case rest =>
      obtain ⟨rfl, R3⟩ := hcut
      have HR3 : Bx _ := ⟨R3⟩
      clear R3 HR2
      go_wp2_with fail
      go_cut [6] from 86 to 109 (fun v6 wx => v6 = .bool true ∧ EvR own w wx a hd c ax gf of cap vH g ge oe e b)
      case first =>
        have C := HR3.out.cells hid hbu
        rw [HF.out] at C
        have f3 := C.f3
        have e2 := C.e2
        have e3 := C.e3
        have c29 := C.c29
        have la := C.la
        clear C
        rw [HF0.out] at f3
        go_quiet ((go_at_call 28; exact Calls.quiet_of_same (needs_yes a _)))
        all_goals go_wp2_with fail
        all_goals go_meet
        all_goals exact ⟨rfl, HR3.out.drewN _⟩
      case rest =>
        obtain ⟨rfl, R4⟩ := hcut
        have HR4 : Bx _ := ⟨R4⟩
        clear R4 HR3
        have C := HR4.out.cells hid hbu
        rw [HF.out] at C
        have e0 := C.e0
        have f3 := C.f3
        have zf := C.zf
        have c28 := C.c28
        have za := C.za
        clear C
        have R5 := (HR4.out.gone hid).own_ 28 (.int .i64 e.time) (b' := { b with f := b.f.set e.id { b.fr e.id with gone := true }, when_ := e.time }) (all37 rfl rfl rfl rfl rfl rfl rfl rfl rfl rfl rfl rfl rfl rfl rfl rfl rfl rfl rfl rfl rfl rfl rfl rfl rfl rfl rfl rfl rfl rfl rfl rfl rfl rfl rfl rfl rfl) rfl rfl rfl rfl rfl rfl rfl rfl rfl rfl rfl
        have HR5 : Bx _ := ⟨R5⟩
        clear R5 HR4
        go_wp2_with fail
        clear e0 f3 zf c28 za n1 n2 n3 n4
        generalize (wc.setCell ⟨gf, of + e.id * 6 + 3, none⟩ (.bool true)).setCell ⟨a, 28, none⟩ (.int .i64 e.time) = w5 at *
        obtain ⟨b5, Hb5⟩ : ∃ b5 : Bo, Bx (b5 = { b with f := b.f.set e.id { b.fr e.id with gone := true }, when_ := e.time }) := ⟨_, ⟨rfl⟩⟩
        rw [← Hb5.out] at HR5
        have hid5 : e.id < b5.f.length := by rw [Hb5.out]; show e.id < (b.f.set _ _).length; rw [List.length_set]; exact hid
        have hbu5 : e.b < b5.on.buckets := by rw [Hb5.out]; exact hbu
        have HF5 : Bx (b5.fr e.id = { F with gone := true }) := ⟨by rw [Hb5.out, ← HF.out]; exact frAt_set_same _ _ _ hid⟩
        have j4 : ((e.b : Nat) : Int) < b5.on.buckets := by omega
        obtain ⟨m0, m1, m2, m3, m4, m5, m6⟩ := N0.out
        go_cut [] from 122 to 134 (fun wx => EvR own w wx a hd c ax gf of cap vH g ge oe e { b5 with last := setAt b5.last e.b (e.id : Int) })
        case first =>
          have C := HR5.out.cells hid5 hbu5
          rw [HF5.out] at C
          have e2 := C.e2
          have e3 := C.e3
          have c29 := C.c29
          have la := C.la
          have z0 := C.z0
          clear C
          go_region
          all_goals go_wp2_with fail
          all_goals go_meet
          all_goals exact (HR5.out.laSet e.b (e.id : Int)).drew
        case rest =>
          obtain ⟨b6, Hb6⟩ : ∃ b6 : Bo, Bx (b6 = { b5 with last := setAt b5.last e.b (e.id : Int) }) := ⟨_, ⟨rfl⟩⟩
          rw [← Hb6.out] at hcut
          have HR6 : Bx _ := ⟨hcut⟩
          have hid6 : e.id < b6.f.length := by rw [Hb6.out]; exact hid5
          have hbu6 : e.b < b6.on.buckets := by rw [Hb6.out]; exact hbu5
          have HF6 : Bx (b6.fr e.id = { F with gone := true }) := ⟨by rw [Hb6.out]; exact HF5.out⟩
          have l4 : ((e.b : Nat) : Int) < b6.on.buckets := by omega
          have q6 : b6.size e.b = b.size e.b := by rw [Hb6.out, Hb5.out]
          have q7 : b6.left e.b = b.left e.b := by rw [Hb6.out, Hb5.out]
          clear hcut HR5 j4
          obtain ⟨S6, HS6⟩ : ∃ S6 : Nat, Bx (b6.size e.b = S6) := ⟨_, ⟨rfl⟩⟩
          obtain ⟨L6, HL6⟩ : ∃ L6 : Nat, Bx (b6.left e.b = L6) := ⟨_, ⟨rfl⟩⟩
          have q8 : S6 ≤ 1099511627776 := by rw [← HS6.out, q6]; exact B6
          have q9 : F.s.size ≤ S6 := by rw [← HS6.out, q6]; exact iS
          have q10 : L6 ≤ 1099511627776 := by rw [← HL6.out, q7]; exact B5
          clear q6 q7
          go_wp2_with fail
          go_cut [] from 135 to 159 (fun wx => EvR own w wx a hd c ax gf of cap vH g ge oe e { b6 with size := setAt b6.size e.b (S6 - F.s.size) })
          case first =>
            have C := HR6.out.cells hid6 hbu6
            rw [HF6.out] at C
            have e3 := C.e3
            have c33 := C.c33
            have si := C.si
            have f0 := C.f0
            have z4 := C.z4
            clear C
            rw [HS6.out] at si
            go_region
            all_goals go_wp2_with fail
            all_goals go_meet
            all_goals exact (HR6.out.siSet e.b (S6 - F.s.size)).drew.cast (by rw [show (((S6 - F.s.size : Nat)) : Int) = (S6 : Int) - F.s.size by omega]) rfl
          case rest =>
            obtain ⟨b7, Hb7⟩ : ∃ b7 : Bo, Bx (b7 = { b6 with size := setAt b6.size e.b (S6 - F.s.size) }) := ⟨_, ⟨rfl⟩⟩
            rw [← Hb7.out] at hcut
            have HR7 : Bx _ := ⟨hcut⟩
            have hid7 : e.id < b7.f.length := by rw [Hb7.out]; exact hid6
            have hbu7 : e.b < b7.on.buckets := by rw [Hb7.out]; exact hbu6
            have HF7 : Bx (b7.fr e.id = { F with gone := true }) := ⟨by rw [Hb7.out]; exact HF6.out⟩
            have l7 : ((e.b : Nat) : Int) < b7.on.buckets := by omega
            have q7 : b7.left e.b = L6 := by rw [Hb7.out]; exact HL6.out
            have HQ7 : Bx _ := ⟨q7⟩
            clear hcut HR6 l4 q7
            go_wp2_with fail
            go_cut [] from 160 to 184 (fun wx => EvR own w wx a hd c ax gf of cap vH g ge oe e { b7 with left := setAt b7.left e.b (L6 + F.s.size) })
            case first =>
              have C := HR7.out.cells hid7 hbu7
              rw [HF7.out] at C
              have e3 := C.e3
              have c34 := C.c34
              have le := C.le
              have f0 := C.f0
              have z5 := C.z5
              clear C
              rw [HQ7.out] at le
              go_region
              all_goals go_wp2_with fail
              all_goals go_meet
              all_goals exact (HR7.out.leSet e.b (L6 + F.s.size)).drew.cast (by rw [show (((L6 + F.s.size : Nat)) : Int) = (L6 : Int) + F.s.size by omega]) rfl
            case rest =>
              obtain ⟨b8, Hb8⟩ : ∃ b8 : Bo, Bx (b8 = { b7 with left := setAt b7.left e.b (L6 + F.s.size) }) := ⟨_, ⟨rfl⟩⟩
              rw [← Hb8.out] at hcut
              have HR8 : Bx _ := ⟨hcut⟩
              have hid8 : e.id < b8.f.length := by rw [Hb8.out]; exact hid7
              have hbu8 : e.b < b8.on.buckets := by rw [Hb8.out]; exact hbu7
              have HF8 : Bx (b8.fr e.id = { F with gone := true }) := ⟨by rw [Hb8.out]; exact HF7.out⟩
              have l8 : ((e.b : Nat) : Int) < b8.on.buckets := by omega
              have HG8 : Bx (b8 = b.goes e) := ⟨by
                rw [Hb8.out, Hb7.out, Hb6.out, Hb5.out, ← HL6.out, ← HS6.out, ← HF.out, Hb6.out, Hb5.out]; rfl⟩
              clear hcut HR7 l7 HQ7 Hb8 Hb7 Hb6 Hb5 HS6 HL6 q8 q9 q10 HF5 HF6 HF7 hid5 hid6 hid7 hbu5 hbu6 hbu7
              go_wp2_with fail
              go_cut [8] from 185 to 193 (fun v8 wx => v8 = .int .i64 ((e.time : Int) - F.at_) ∧ EvR own w wx a hd c ax gf of cap vH g ge oe e b8)
              case first =>
                have C := HR8.out.cells hid8 hbu8
                rw [HF8.out] at C
                have e0 := C.e0
                have f1 := C.f1
                clear C
                go_quiet (fail)
                all_goals go_wp2_with fail
                all_goals go_meet
                all_goals exact ⟨rfl, HR8.out.drewN _⟩
              case rest =>
                obtain ⟨rfl, R9⟩ := hcut
                have HR9 : Bx _ := ⟨R9⟩
                clear R9 HR8
                go_wp2_with fail
                go_cut [] from 194 to 211 (fun wx => EvR own w wx a hd c ax gf of cap vH g ge oe e b8)
                case first =>
                  have C := HR9.out.cells hid8 hbu8
                  rw [HF8.out] at C
                  have e0 := C.e0
                  have f5 := C.f5
                  clear C
                  have hs := (HE.out 64).soon rfl
                  rw [HF.out] at hs
                  by_cases hs1 : F.soon < 0
                  · go_quiet ((go_at_call 26; exact Calls.quiet_of_same (is_yes a _ _)))
                    go_wp2_with fail
                    go_meet
                    exact HR9.out.drewN _
                  · have hs2 : (e.time : Int) ≤ F.soon := hs.resolve_left hs1
                    go_quiet ((go_at_call 26; exact Calls.quiet_of_same (is_yes a _ _)))
                    go_wp2_with fail
                    go_meet
                    exact HR9.out.drewN _
                case rest =>
                  have HRa : Bx _ := ⟨hcut⟩
                  clear hcut HR9
                  have C := HRa.out.cells hid8 hbu8
                  rw [HF8.out] at C
                  have e1 := C.e1
                  clear C
                  rw [HK.out] at e1
                  go_wp2_with fail
                  go_cut [] from 434 to 442 (fun wx => EvR own w wx a hd c ax gf of cap vH g ge oe e { b8 with over := setAt b8.over e.b true })
                  case first =>
                    have C := HRa.out.cells hid8 hbu8
                    rw [HF8.out] at C
                    have e3 := C.e3
                    have c35 := C.c35
                    have ov := C.ov
                    have z6 := C.z6
                    clear C
                    go_region
                    all_goals go_wp2_with fail
                    all_goals go_meet
                    all_goals exact (HRa.out.ovSet e.b true).drew
                  case rest =>
                    obtain ⟨b9, Hb9⟩ : ∃ b9 : Bo, Bx (b9 = { b8 with over := setAt b8.over e.b true }) := ⟨_, ⟨rfl⟩⟩
                    rw [← Hb9.out] at hcut
                    have HRb : Bx _ := ⟨hcut⟩
                    have hid9 : e.id < b9.f.length := by rw [Hb9.out]; exact hid8
                    have hbu9 : e.b < b9.on.buckets := by rw [Hb9.out]; exact hbu8
                    have HF9 : Bx (b9.fr e.id = { F with gone := true }) := ⟨by rw [Hb9.out]; exact HF8.out⟩
                    have HG9 : Bx (b9 = b.event e) := ⟨by rw [Hb9.out, HG8.out]; unfold Bo.event; rw [if_neg (by have := HK.out; omega), if_pos HK.out]; rfl⟩
                    clear hcut HRa Hb9 e1
                    have C := HRb.out.cells hid9 hbu9
                    rw [HF9.out] at C
                    have e4 := C.e4
                    have f0 := C.f0
                    clear C
                    have hon := (HE.out 1).once rfl (by have := HK.out; omega)
                    rw [HF.out] at hon
                    rw [hon] at e4
                    go_wp2_with fail
                    go_quiet ((go_at_call 26; exact Calls.quiet_of_same (is_yes a _ _)))
                    have HRz : Bx _ := ⟨HRb.out.drewN nq⟩
                    rw [HG9.out] at HRz
                    clear HRb
                    go_wp2_with fail
                    go_end0
                    exact ⟨rfl, ⟨_, _, _, HRz.out.bo⟩, HRz.out.fr⟩

end Go.Proofs.Ytnkicbopebgppab
